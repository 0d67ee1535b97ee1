"""Calls of tk_check in a short form, and calls in which just certain things are wrong."""

from samples import row, signed
from tokenpass.tokens import tk_check

HEADER = b'{"alg":"HS256","typ":"JWT"}'
KEY = b"some key"
KEYS = row(b"", KEY)

NOW = 1000
SLACK = 10

# What tk_check may answer other than 0, in the order in which it is due.
FAULTS = (-2, -3, 1, 2, 3, 4, 5, 6, 7, 8, 9)


def checked(token, keys=KEYS, now=NOW, slack=SLACK, iss=None, aud=None):
    """tk_check's answer; iss and aud are None where nothing is wanted."""
    i = -1 if iss is None else len(iss)
    a = -1 if aud is None else len(aud)
    return tk_check(now, slack, i, a, list(token), list(keys), list(iss or b""), list(aud or b""))


def claimed(claims, **others):
    """tk_check's answer for a token that is right but, maybe, for its claims."""
    return checked(signed(HEADER, claims, KEY), **others)


def headed(header, keys=KEYS, key=KEY, **others):
    """tk_check's answer for a token that is right but, maybe, for its header."""
    return checked(signed(header, b"{}", key), keys, **others)


def faulty(faults):
    """Arguments of tk_check in which just the things of these numbers, from -3 to 9, are wrong."""
    header = b'{"alg":"HS256","kid":"%s","typ":"%s"}' % (
        b"other" if 3 in faults else b"name", b"jwt" if 2 in faults else b"JWT")
    claims = b'{"iat":%s,"nbf":%d,"exp":%d,"iss":"%s","aud":["x","%s"]}' % (
        b'"5"' if 5 in faults else b"5",
        NOW + SLACK + 1 if 6 in faults else NOW + SLACK,
        NOW - SLACK if 7 in faults else NOW - SLACK + 1,
        b"jim" if 8 in faults else b"joe",
        b"them" if 9 in faults else b"us")
    token = signed(header, claims, b"another key" if 4 in faults else KEY)
    if 1 in faults:
        token = token + [46]
    keys = row(b"", b"no key") + row(b"name", KEY)
    if -3 in faults:
        keys = keys + [0]
    i = 1025 if -2 in faults else 3
    return NOW, SLACK, i, 2, token, keys, [] if -2 in faults else list(b"joe"), list(b"us")
