"""The claims of a token: when they are right, and what they say."""

from tokenpass.jsontext import ARRAY, NUMBER, is_digit, read_members
from tokenpass.members import is_string, member

# 2^53, and how many digits it has. Noughts don't stand in front, so a number of more digits isn't below it.
NUMBERS_BELOW = 9007199254740992
MOST_DIGITS = 16


def whole_number(digits):
    """The number that bytes of digits alone stand for."""
    number = 0
    for byte in digits:
        number = number * 10 + byte - ord("0")
    return number


def is_time(value):
    """Whether it is a number of digits alone, below 2^53."""
    # Very many digits are refused unread, since a number of so many takes long to make.
    if value.kind != NUMBER or len(value.inner) > MOST_DIGITS:
        return False
    return all([is_digit(byte) for byte in value.inner]) and whole_number(value.inner) < NUMBERS_BELOW


def is_strings(value):
    """Whether it is a string or an array of strings."""
    if value.kind == ARRAY:
        return all([is_string(part) for part in value.inner])
    return is_string(value)


def is_right(members):
    for name in ("exp", "nbf", "iat"):
        value = member(members, name)
        if value is not None and not is_time(value):
            return False
    for name in ("iss", "sub", "jti"):
        value = member(members, name)
        if value is not None and not is_string(value):
            return False
    aud = member(members, "aud")
    return aud is None or is_strings(aud)


def right_claims(text):
    """The members of the claims that the text is, None if they aren't right."""
    members = read_members(text)
    if members is None or not is_right(members):
        return None
    return members


def starts_after(claims, now, slack):
    """Whether right claims hold only from a time above now and slack together."""
    nbf = member(claims, "nbf")
    return nbf is not None and whole_number(nbf.inner) > now + slack


def ends_by(claims, now, slack):
    """Whether right claims hold only till a time that, with slack, now isn't below."""
    exp = member(claims, "exp")
    return exp is not None and now >= whole_number(exp.inner) + slack


def is_from(claims, iss):
    """Whether right claims have iss, of just these bytes."""
    value = member(claims, "iss")
    return value is not None and value.inner == iss


def is_for(claims, aud):
    """Whether right claims have aud, of just these bytes or with them among its strings."""
    value = member(claims, "aud")
    if value is None:
        return False
    if value.kind == ARRAY:
        return aud in [part.inner for part in value.inner]
    return value.inner == aud
