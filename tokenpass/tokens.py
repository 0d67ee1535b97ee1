"""The calls. Each answers one list of whole numbers; a refusal is its number alone."""

from tokenpass.base64url import from_signs, to_signs
from tokenpass.hs256 import hs256
from tokenpass.jsontext import NotJson, count_values

WRONG_ARGUMENTS = -2
NOT_WRITTEN_SO = -3
LONGER_THAN_MOST = -7

LONGEST_KEY = 64


def counted(most, data):
    """How many bytes data has, then these, if they are not more than most."""
    if len(data) > most:
        return [LONGER_THAN_MOST]
    return [len(data)] + data


def tk_pack(most, b):
    """How many bytes, then these: b in base64url."""
    if most < 0:
        return [WRONG_ARGUMENTS]
    return counted(most, to_signs(b))


def tk_unpack(most, t):
    """How many bytes, then these: what t is of in base64url."""
    if most < 0:
        return [WRONG_ARGUMENTS]
    data = from_signs(t)
    if data is None:
        return [NOT_WRITTEN_SO]
    return counted(most, data)


def tk_mac(key, b):
    """0, then 32 bytes: HS256 of b by key."""
    if not 1 <= len(key) <= LONGEST_KEY:
        return [WRONG_ARGUMENTS]
    return [0] + hs256(key, b)


def tk_json(t):
    """How many values there are in all in the text t."""
    try:
        return [count_values(t)]
    except NotJson:
        return [NOT_WRITTEN_SO]
