"""The calls. Each answers one list of whole numbers; a refusal is its number alone."""

from tokenpass.base64url import from_signs, to_signs
from tokenpass.claims import right_claims
from tokenpass.faults import first_fault
from tokenpass.header import can_be_kid, header_with
from tokenpass.hs256 import LONGEST_KEY, hs256
from tokenpass.jsontext import NotJson, count_values, read_members
from tokenpass.keyrows import read_rows
from tokenpass.tokentext import read_token, write_token

WRONG_ARGUMENTS = -2
NOT_WRITTEN_SO = -3
THERE_IS_NONE = -5
LONGER_THAN_MOST = -7

# In the place of how many bytes iss or aud is to have: nothing is wanted, which is unlike no bytes.
NOT_WANTED = -1
LONGEST_WANTED = 1024


def counted(most, data):
    """How many bytes data has, then these, if they are not more than most."""
    if len(data) > most:
        return [LONGER_THAN_MOST]
    return [len(data)] + data


def is_key(key):
    return 1 <= len(key) <= LONGEST_KEY


def is_wanted_length(length):
    return NOT_WANTED <= length <= LONGEST_WANTED


def wanted(length, data):
    """data, or None if nothing is wanted."""
    if length == NOT_WANTED:
        return None
    return data


def tk_pack(most, b):
    """How many bytes, then these: b in base64url."""
    if most < 0:
        return [WRONG_ARGUMENTS]
    return counted(most, to_signs(b))


def tk_unpack(most, t):
    """How many bytes, then these: what t is of in base64url."""
    if most < 0:
        return [WRONG_ARGUMENTS]
    data = from_signs(t)
    if data is None:
        return [NOT_WRITTEN_SO]
    return counted(most, data)


def tk_mac(key, b):
    """0, then 32 bytes: HS256 of b by key."""
    if not is_key(key):
        return [WRONG_ARGUMENTS]
    return [0] + hs256(key, b)


def tk_json(t):
    """How many values there are in all in the text t."""
    try:
        return [count_values(t)]
    except NotJson:
        return [NOT_WRITTEN_SO]


def tk_make(most, claims, key, kid):
    """How many bytes, then these: the token with these claims, signed by key; kid is the key's name if it has bytes."""
    if most < 0 or not is_key(key):
        return [WRONG_ARGUMENTS]
    if right_claims(claims) is None or not can_be_kid(kid):
        return [NOT_WRITTEN_SO]
    return counted(most, write_token(header_with(kid), claims, key))


def tk_check(now, slack, i, a, token, keys, iss, aud):
    """0 if nothing is wrong with the token, else 1 to 9: the first thing that is."""
    if not is_wanted_length(i) or not is_wanted_length(a):
        return [WRONG_ARGUMENTS]
    rows = read_rows(keys)
    if rows is None:
        return [NOT_WRITTEN_SO]
    return [first_fault(token, rows, now, slack, wanted(i, iss), wanted(a, aud))]


def tk_claim(most, token, name):
    """How many bytes, then these: the value of the name in the token's claims, as it stands there."""
    if most < 0:
        return [WRONG_ARGUMENTS]
    parts = read_token(token)
    if parts is None:
        return [NOT_WRITTEN_SO]
    members = read_members(parts.claims)
    if members is None:
        return [NOT_WRITTEN_SO]
    value = members.get(tuple(name))
    if value is None:
        return [THERE_IS_NONE]
    return counted(most, parts.claims[value.begin:value.end])
