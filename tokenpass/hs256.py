"""HS256: HMAC (RFC 2104) with SHA-256, over lists of bytes."""

from tokenpass.sha256 import BLOCK, sha256


def hs256(key, data):
    """The 32 bytes of HS256 of data by a key of at most one block."""
    block = key + [0] * (BLOCK - len(key))
    inner = [byte ^ 0x36 for byte in block]
    outer = [byte ^ 0x5C for byte in block]
    return sha256(outer + sha256(inner + data))
