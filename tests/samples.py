"""Inputs that several test files use. The expected texts come from RFC 4648 and Python's own base64."""

import base64
import hashlib
import hmac

ALPHABET = b"ABCDEFGHIJKLMNOPQRSTUVWXYZabcdefghijklmnopqrstuvwxyz0123456789-_"

NO_SIGNS = [byte for byte in range(256) if byte not in ALPHABET]

# RFC 4648, section 10, the padding left off; then pairs that hold the two signs of base64url alone,
# and the header of RFC 7515, appendix A.1.
KNOWN_PAIRS = [
    (b"", b""),
    (b"f", b"Zg"),
    (b"fo", b"Zm8"),
    (b"foo", b"Zm9v"),
    (b"foob", b"Zm9vYg"),
    (b"fooba", b"Zm9vYmE"),
    (b"foobar", b"Zm9vYmFy"),
    (b"\x00", b"AA"),
    (b"\x00\x00", b"AAA"),
    (b"\x00\x00\x00", b"AAAA"),
    (b"\xff", b"_w"),
    (b"\xff\xff", b"__8"),
    (b"\xff\xff\xff", b"____"),
    (b"\xfb\xef\xbe", b"----"),
    (b"\x14\xfb\x9c\x03\xd9\x7e", b"FPucA9l-"),
    (b'{"typ":"JWT",\r\n "alg":"HS256"}', b"eyJ0eXAiOiJKV1QiLA0KICJhbGciOiJIUzI1NiJ9"),
]


class Untouched(list):
    """A list that fails as soon as somebody changes it, even if only for a while."""

    def refuse(self, *given, **named):
        raise AssertionError("a list that was handed in is changed")

    append = extend = insert = pop = remove = clear = sort = reverse = refuse
    __setitem__ = __delitem__ = __iadd__ = __imul__ = refuse


def spread(length):
    """Bytes of that length in which all values come up, in no simple order."""
    return [(place * 167 + place // 256 * 31 + 5) % 256 for place in range(length)]


def written(data):
    """data in base64url, by Python's own base64."""
    return list(base64.urlsafe_b64encode(bytes(data)).rstrip(b"="))


def answer(data):
    """The answer that gives these bytes."""
    return [len(data)] + list(data)


def signed(header, claims, key):
    """The token with this header and these claims as they stand, by Python's own base64 and hmac."""
    text = bytes(written(header) + [46] + written(claims))
    return list(text) + [46] + written(hmac.new(bytes(key), text, hashlib.sha256).digest())


def row(name, key):
    """The row of tk_check's keys with this name and this key."""
    return [len(name)] + list(name) + [len(key)] + list(key)
