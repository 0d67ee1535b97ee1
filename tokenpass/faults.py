"""The first thing that is wrong with a token."""

from tokenpass.claims import ends_by, is_for, is_from, right_claims, starts_after
from tokenpass.header import kid_of, right_header
from tokenpass.hs256 import hs256
from tokenpass.keyrows import key_named
from tokenpass.tokentext import read_token

NOTHING_WRONG = 0
NO_TOKEN = 1
HEADER_NOT_RIGHT = 2
NO_KEY = 3
OTHER_SIGNATURE = 4
CLAIMS_NOT_RIGHT = 5
TOO_EARLY = 6
TOO_LATE = 7
OTHER_ISSUER = 8
OTHER_AUDIENCE = 9


def claims_fault(claims, now, slack, iss, aud):
    """The first thing that is wrong with right claims here and now."""
    if starts_after(claims, now, slack):
        return TOO_EARLY
    if ends_by(claims, now, slack):
        return TOO_LATE
    if iss is not None and not is_from(claims, iss):
        return OTHER_ISSUER
    if aud is not None and not is_for(claims, aud):
        return OTHER_AUDIENCE
    return NOTHING_WRONG


def first_fault(text, rows, now, slack, iss, aud):
    """The first thing that is wrong with the token that the text is. iss or aud is None if none is wanted."""
    token = read_token(text)
    if token is None:
        return NO_TOKEN
    header = right_header(token.header)
    if header is None:
        return HEADER_NOT_RIGHT
    key = key_named(rows, kid_of(header))
    if key is None:
        return NO_KEY
    if token.signature != hs256(key, token.signed):
        return OTHER_SIGNATURE
    claims = right_claims(token.claims)
    if claims is None:
        return CLAIMS_NOT_RIGHT
    return claims_fault(claims, now, slack, iss, aud)
