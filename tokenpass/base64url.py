"""base64url (RFC 4648, without padding) over lists of bytes."""

SIGNS = "ABCDEFGHIJKLMNOPQRSTUVWXYZabcdefghijklmnopqrstuvwxyz0123456789-_"


def sign_of(six):
    """The byte of the sign that stands for six bits."""
    return ord(SIGNS[six])


def six_of(sign):
    """The six bits that a byte stands for as a sign, -1 if it is none."""
    if ord("A") <= sign <= ord("Z"):
        return sign - ord("A")
    if ord("a") <= sign <= ord("z"):
        return sign - ord("a") + 26
    if ord("0") <= sign <= ord("9"):
        return sign - ord("0") + 52
    if sign == ord("-"):
        return 62
    if sign == ord("_"):
        return 63
    return -1


def to_signs(data):
    """The bytes of data written in base64url."""
    signs = []
    held = 0
    bits = 0
    for byte in data:
        held = (held << 8) | byte
        bits = bits + 8
        while bits >= 6:
            bits = bits - 6
            signs.append(sign_of(held >> bits))
            # Only what is not yet written stays, so that held never grows long.
            held = held & ((1 << bits) - 1)
    if bits > 0:
        signs.append(sign_of(held << (6 - bits)))
    return signs


def from_signs(signs):
    """The bytes that signs are of, None if they are nothing's."""
    # One sign behind whole fours has too few bits for a byte, even if they are all 0.
    if len(signs) % 4 == 1:
        return None
    data = []
    held = 0
    bits = 0
    for sign in signs:
        six = six_of(sign)
        if six < 0:
            return None
        held = (held << 6) | six
        bits = bits + 6
        if bits >= 8:
            bits = bits - 8
            data.append(held >> bits)
            held = held & ((1 << bits) - 1)
    # Bits left over that are not 0 would give the same bytes a second way to be written.
    if held != 0:
        return None
    return data
