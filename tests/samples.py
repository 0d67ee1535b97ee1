"""Inputs that several test files use. The expected texts come from RFC 4648 and Python's own base64."""

import base64
import hashlib
import hmac

ALPHABET = b"ABCDEFGHIJKLMNOPQRSTUVWXYZabcdefghijklmnopqrstuvwxyz0123456789-_"

NO_SIGNS = [byte for byte in range(256) if byte not in ALPHABET]

# RFC 4648, section 10, the padding left off; then pairs that hold the two signs of base64url alone,
# and the header of RFC 7515, appendix A.1.
KNOWN_PAIRS = [
    (b"", b""),
    (b"f", b"Zg"),
    (b"fo", b"Zm8"),
    (b"foo", b"Zm9v"),
    (b"foob", b"Zm9vYg"),
    (b"fooba", b"Zm9vYmE"),
    (b"foobar", b"Zm9vYmFy"),
    (b"\x00", b"AA"),
    (b"\x00\x00", b"AAA"),
    (b"\x00\x00\x00", b"AAAA"),
    (b"\xff", b"_w"),
    (b"\xff\xff", b"__8"),
    (b"\xff\xff\xff", b"____"),
    (b"\xfb\xef\xbe", b"----"),
    (b"\x14\xfb\x9c\x03\xd9\x7e", b"FPucA9l-"),
    (b'{"typ":"JWT",\r\n "alg":"HS256"}', b"eyJ0eXAiOiJKV1QiLA0KICJhbGciOiJIUzI1NiJ9"),
]

# The token of RFC 7515, appendix A.1, and its key of 64 bytes.
RFC_TOKEN = (
    b"eyJ0eXAiOiJKV1QiLA0KICJhbGciOiJIUzI1NiJ9"
    b".eyJpc3MiOiJqb2UiLA0KICJleHAiOjEzMDA4MTkzODAsDQogImh0dHA6Ly9leGFtcGxlLmNvbS9pc19yb290Ijp0cnVlfQ"
    b".dBjftJeZ4CVP-mB92K27uhbUJU1p1r_wW1gFWFOEjXk"
)
RFC_KEY = base64.urlsafe_b64decode(
    "AyM1SysPpbyDfgZld3umj1qzKObwVMkoqQ-EstJQLr_T-1qS0gZH75aKtMN3Yj0iPS4hcgUuTwjAzZr1Z9CAow==")

# A widely known token; its key is your-256-bit-secret.
DOE_CLAIMS = b'{"sub":"1234567890","name":"John Doe","iat":1516239022}'
DOE_TOKEN = (
    b"eyJhbGciOiJIUzI1NiIsInR5cCI6IkpXVCJ9"
    b".eyJzdWIiOiIxMjM0NTY3ODkwIiwibmFtZSI6IkpvaG4gRG9lIiwiaWF0IjoxNTE2MjM5MDIyfQ"
    b".SflKxwRJSMeKKF2QT4fwpMeJf36POk6yJV_adQssw5c"
)


class Untouched(list):
    """A list that fails as soon as somebody changes it, even if only for a while."""

    def refuse(self, *given, **named):
        raise AssertionError("a list that was handed in is changed")

    append = extend = insert = pop = remove = clear = sort = reverse = refuse
    __setitem__ = __delitem__ = __iadd__ = __imul__ = refuse


def spread(length):
    """Bytes of that length in which all values come up, in no simple order."""
    return [(place * 167 + place // 256 * 31 + 5) % 256 for place in range(length)]


def written(data):
    """data in base64url, by Python's own base64."""
    return list(base64.urlsafe_b64encode(bytes(data)).rstrip(b"="))


def answer(data):
    """The answer that gives these bytes."""
    return [len(data)] + list(data)


def signed(header, claims, key):
    """The token with this header and these claims as they stand, by Python's own base64 and hmac."""
    text = bytes(written(header) + [46] + written(claims))
    return list(text) + [46] + written(hmac.new(bytes(key), text, hashlib.sha256).digest())


def row(name, key):
    """The row of tk_check's keys with this name and this key."""
    return [len(name)] + list(name) + [len(key)] + list(key)
