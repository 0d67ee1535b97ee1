"""HS256: HMAC (RFC 2104) with SHA-256, over lists of bytes."""

from tokenpass.sha256 import BLOCK, sha256

# How many bytes a key may have: never more than a block, so that none has to be shortened.
LONGEST_KEY = 64


def hs256(key, data):
    """The 32 bytes of HS256 of data by a key of 1 to LONGEST_KEY bytes."""
    block = key + [0] * (BLOCK - len(key))
    inner = [byte ^ 0x36 for byte in block]
    outer = [byte ^ 0x5C for byte in block]
    return sha256(outer + sha256(inner + data))
