"""What tk_make, tk_check and tk_claim are to answer, by Python's own json, base64 and hmac."""

import base64
import hashlib
import hmac
import json
import re

from json_oracle import expected

SIGNS = re.compile(rb"[A-Za-z0-9_-]*")
DECODER = json.JSONDecoder(parse_int=str, parse_float=str)
BLANKS = " \t\n\r"


class Number(str):
    """A number as its signs stand."""


def members(data):
    """The object that the bytes are, None if they are no JSON or no object."""
    if expected(data) == [-3]:
        return None
    value = json.loads(bytes(data), parse_int=Number, parse_float=Number)
    return value if isinstance(value, dict) else None


def is_string(value):
    return isinstance(value, str) and not isinstance(value, Number)


def is_time(value):
    return isinstance(value, Number) and re.fullmatch("[0-9]{1,16}", value) is not None and int(value) < 2**53


def header_right(header):
    return (
        is_string(header.get("alg")) and header["alg"] == "HS256"
        and ("typ" not in header or is_string(header["typ"]) and header["typ"] == "JWT")
        and ("kid" not in header or is_string(header["kid"]))
        and "crit" not in header
    )


def claims_right(claims):
    times = all(is_time(claims[name]) for name in ("exp", "nbf", "iat") if name in claims)
    strings = all(is_string(claims[name]) for name in ("iss", "sub", "jti") if name in claims)
    aud = claims.get("aud", "")
    return times and strings and all(is_string(part) for part in (aud if isinstance(aud, list) else [aud]))


def unpacked(signs):
    """The bytes, None if the signs are nothing's."""
    if not SIGNS.fullmatch(signs) or len(signs) % 4 == 1:
        return None
    data = base64.urlsafe_b64decode(signs + b"=" * (-len(signs) % 4))
    return data if base64.urlsafe_b64encode(data).rstrip(b"=") == signs else None


def rows(keys):
    """Each name with its first key; None if keys aren't rows."""
    found = {}
    keys = bytes(keys)
    while keys:
        name, behind = keys[1:1 + keys[0]], keys[1 + keys[0]:]
        if not behind or not 1 <= behind[0] <= 64 or len(behind) < 1 + behind[0]:
            return None
        found.setdefault(name, behind[1:1 + behind[0]])
        keys = behind[1 + behind[0]:]
    return found


def check(now, slack, i, a, token, keys, iss, aud):
    if not -1 <= i <= 1024 or not -1 <= a <= 1024:
        return [-2]
    named = rows(keys)
    if named is None:
        return [-3]
    return [fault(now, slack, i, a, bytes(token), named, bytes(iss), bytes(aud))]


def fault(now, slack, i, a, token, named, iss, aud):
    parts = [unpacked(part) for part in token.split(b".")]
    if len(parts) != 3 or None in parts:
        return 1
    header = members(parts[0])
    if header is None or not header_right(header):
        return 2
    key = named.get(header.get("kid", "").encode())
    if key is None:
        return 3
    if hmac.new(key, token.rpartition(b".")[0], hashlib.sha256).digest() != parts[2]:
        return 4
    claims = members(parts[1])
    if claims is None or not claims_right(claims):
        return 5
    if int(claims.get("nbf", 0)) - slack > now:
        return 6
    if "exp" in claims and now - slack >= int(claims["exp"]):
        return 7
    if i >= 0 and ("iss" not in claims or claims["iss"].encode() != iss):
        return 8
    said = claims.get("aud", [])
    said = said if isinstance(said, list) else [said]
    if a >= 0 and aud not in [part.encode() for part in said]:
        return 9
    return 0


def skip(text, place):
    while text[place] in BLANKS:
        place += 1
    return place


def spans(text):
    """Each name of the object that the text is, with its value as it stands."""
    found = {}
    place = skip(text, skip(text, 0) + 1)
    while text[place] != "}":
        name, place = DECODER.raw_decode(text, place)
        start = skip(text, skip(text, place) + 1)
        value, place = DECODER.raw_decode(text, start)
        found[name.encode()] = text[start:place].encode()
        place = skip(text, place)
        if text[place] == ",":
            place = skip(text, place + 1)
    return found


def claim(most, token, name):
    if most < 0:
        return [-2]
    parts = [unpacked(part) for part in bytes(token).split(b".")]
    if len(parts) != 3 or None in parts or members(parts[1]) is None:
        return [-3]
    value = spans(parts[1].decode()).get(bytes(name))
    if value is None:
        return [-5]
    return [-7] if len(value) > most else [len(value)] + list(value)
