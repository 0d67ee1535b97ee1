"""A token's text: header, claims and signature, each in base64url, points between."""

from tokenpass.base64url import from_signs, to_signs
from tokenpass.hs256 import hs256

POINT = 46


# What a token's three parts are of, and the bytes that its signature stands for.
class Token:
    def __init__(self, header, claims, signature, signed):
        self.header = header
        self.claims = claims
        self.signature = signature
        self.signed = signed


def read_token(text):
    """The token that the text is, None if it hasn't three parts in base64url. Nothing else is looked at."""
    points = [place for place, byte in enumerate(text) if byte == POINT]
    if len(points) != 2:
        return None
    header = from_signs(text[:points[0]])
    claims = from_signs(text[points[0] + 1:points[1]])
    signature = from_signs(text[points[1] + 1:])
    if header is None or claims is None or signature is None:
        return None
    return Token(header, claims, signature, text[:points[1]])


def write_token(header, claims, key):
    """The text of the token with this header and these claims, signed by key."""
    signed = to_signs(header) + [POINT] + to_signs(claims)
    return signed + [POINT] + to_signs(hs256(key, signed))
