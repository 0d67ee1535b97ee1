"""UTF-8 (RFC 3629) over lists of bytes, a sign at a time."""

# The first byte from and to, the second byte from and to, and how many bytes the sign has. The second byte's
# range keeps out overlong forms, surrogates and what lies above 0x10FFFF; further bytes are 0x80 to 0xBF.
LONG_FORMS = (
    (0xC2, 0xDF, 0x80, 0xBF, 2),
    (0xE0, 0xE0, 0xA0, 0xBF, 3),
    (0xE1, 0xEC, 0x80, 0xBF, 3),
    (0xED, 0xED, 0x80, 0x9F, 3),
    (0xEE, 0xEF, 0x80, 0xBF, 3),
    (0xF0, 0xF0, 0x90, 0xBF, 4),
    (0xF1, 0xF3, 0x80, 0xBF, 4),
    (0xF4, 0xF4, 0x80, 0x8F, 4),
)


def long_sign_size(text, place):
    """How many bytes the sign of several bytes at place has, 0 if there is none."""
    for first_from, first_to, second_from, second_to, size in LONG_FORMS:
        if first_from <= text[place] <= first_to:
            if place + size > len(text) or not second_from <= text[place + 1] <= second_to:
                return 0
            if any([not 0x80 <= byte <= 0xBF for byte in text[place + 2:place + size]]):
                return 0
            return size
    return 0


def sign_size(text, place):
    """How many bytes the sign at place has, 0 if there is none that is valid."""
    if text[place] < 0x80:
        return 1
    return long_sign_size(text, place)


def utf8_of(code):
    """The bytes of the sign with this number, which is no surrogate's."""
    if code < 0x80:
        return [code]
    if code < 0x800:
        return [0xC0 | (code >> 6), 0x80 | (code & 0x3F)]
    if code < 0x10000:
        return [0xE0 | (code >> 12), 0x80 | ((code >> 6) & 0x3F), 0x80 | (code & 0x3F)]
    return [0xF0 | (code >> 18), 0x80 | ((code >> 12) & 0x3F), 0x80 | ((code >> 6) & 0x3F), 0x80 | (code & 0x3F)]
