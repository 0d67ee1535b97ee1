"""What the members of a JSON object are, as the header and the claims of a token are both asked for them."""

from tokenpass.jsontext import STRING


def ascii_of(text):
    """The bytes of a text of ASCII signs."""
    return [ord(sign) for sign in text]


def member(members, name):
    """The value that has this name, None if there is none."""
    return members.get(tuple(ascii_of(name)))


def is_string(value):
    return value.kind == STRING


def is_string_of(value, text):
    """Whether it is the string of this text of ASCII signs."""
    return is_string(value) and value.inner == ascii_of(text)
