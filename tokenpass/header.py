"""The header of a token: how it is written, when it is right, and what it says."""

from tokenpass.jsontext import BACKSLASH, QUOTE, read_members
from tokenpass.members import ascii_of, is_string, is_string_of, member


def can_be_kid(kid):
    """Whether these bytes may stand in the header as they are."""
    return all([32 <= byte <= 126 and byte != QUOTE and byte != BACKSLASH for byte in kid])


def header_with(kid):
    """The bytes of the header that has this kid, or has none if kid has no bytes."""
    named = []
    if len(kid) > 0:
        named = ascii_of('"kid":"') + kid + ascii_of('",')
    return ascii_of('{"alg":"HS256",') + named + ascii_of('"typ":"JWT"}')


def is_right(members):
    alg = member(members, "alg")
    if alg is None or not is_string_of(alg, "HS256"):
        return False
    typ = member(members, "typ")
    if typ is not None and not is_string_of(typ, "JWT"):
        return False
    kid = member(members, "kid")
    if kid is not None and not is_string(kid):
        return False
    return member(members, "crit") is None


def right_header(text):
    """The members of the header that the text is, None if it isn't right."""
    members = read_members(text)
    if members is None or not is_right(members):
        return None
    return members


def kid_of(header):
    """The bytes of a right header's kid; without a kid they are none."""
    kid = member(header, "kid")
    if kid is None:
        return []
    return kid.inner
