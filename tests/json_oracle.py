"""What tk_json is to answer, by Python's own json, held as strictly as the document holds it."""

import json


class Pairs(list):
    """An object's names and values, so that a name that comes twice is seen."""


def no_constant(word):
    raise ValueError(word)


def check_string(text):
    # Python's json lets a lone surrogate through; UTF-8 can't hold one.
    text.encode("utf-8")


def count(value, around):
    """How many values there are, itself counted; ValueError if it is not held so."""
    if isinstance(value, str):
        check_string(value)
    if not isinstance(value, list):
        return 1
    if around == 16:
        raise ValueError("too deep")
    within = value
    if isinstance(value, Pairs):
        names = [name for name, part in value]
        for name in names:
            check_string(name)
        if len(set(names)) < len(names):
            raise ValueError("a name twice")
        within = [part for name, part in value]
    return 1 + sum(count(part, around + 1) for part in within)


def expected(data):
    """The answer to these bytes. Numbers stay unread, since Python has limits there that JSON has not."""
    try:
        value = json.loads(
            bytes(data).decode("utf-8"),
            parse_int=len,
            parse_float=len,
            parse_constant=no_constant,
            object_pairs_hook=Pairs,
        )
        return [count(value, 0)]
    except (ValueError, RecursionError):
        return [-3]
