"""SHA-256 (FIPS 180-4) over lists of bytes."""

BLOCK = 64
WORD = 0xFFFFFFFF

FIRST_STATE = (
    0x6A09E667, 0xBB67AE85, 0x3C6EF372, 0xA54FF53A, 0x510E527F, 0x9B05688C, 0x1F83D9AB, 0x5BE0CD19,
)

CONSTANTS = (
    0x428A2F98, 0x71374491, 0xB5C0FBCF, 0xE9B5DBA5, 0x3956C25B, 0x59F111F1, 0x923F82A4, 0xAB1C5ED5,
    0xD807AA98, 0x12835B01, 0x243185BE, 0x550C7DC3, 0x72BE5D74, 0x80DEB1FE, 0x9BDC06A7, 0xC19BF174,
    0xE49B69C1, 0xEFBE4786, 0x0FC19DC6, 0x240CA1CC, 0x2DE92C6F, 0x4A7484AA, 0x5CB0A9DC, 0x76F988DA,
    0x983E5152, 0xA831C66D, 0xB00327C8, 0xBF597FC7, 0xC6E00BF3, 0xD5A79147, 0x06CA6351, 0x14292967,
    0x27B70A85, 0x2E1B2138, 0x4D2C6DFC, 0x53380D13, 0x650A7354, 0x766A0ABB, 0x81C2C92E, 0x92722C85,
    0xA2BFE8A1, 0xA81A664B, 0xC24B8B70, 0xC76C51A3, 0xD192E819, 0xD6990624, 0xF40E3585, 0x106AA070,
    0x19A4C116, 0x1E376C08, 0x2748774C, 0x34B0BCB5, 0x391C0CB3, 0x4ED8AA4A, 0x5B9CCA4F, 0x682E6FF3,
    0x748F82EE, 0x78A5636F, 0x84C87814, 0x8CC70208, 0x90BEFFFA, 0xA4506CEB, 0xBEF9A3F7, 0xC67178F2,
)


def turned(word, steps):
    """The word with its bits turned to the right, those that fall out coming in at the left."""
    return ((word >> steps) | (word << (32 - steps))) & WORD


def bytes_of(number, size):
    """The number in so many bytes, the highest first."""
    return [(number >> (8 * place)) & 255 for place in range(size - 1, -1, -1)]


def padded(data):
    """data, the bit 1, bits 0 to the end of a block but for its last 8 bytes, and there how many bits data has."""
    zeros = (BLOCK - 9 - len(data)) % BLOCK
    return data + [128] + [0] * zeros + bytes_of(8 * len(data), 8)


def spread_words(block):
    """The 64 words that a block of 64 bytes is spread to."""
    words = []
    for at in range(0, BLOCK, 4):
        words.append((block[at] << 24) | (block[at + 1] << 16) | (block[at + 2] << 8) | block[at + 3])
    for at in range(16, 64):
        near = words[at - 2]
        far = words[at - 15]
        from_near = turned(near, 17) ^ turned(near, 19) ^ (near >> 10)
        from_far = turned(far, 7) ^ turned(far, 18) ^ (far >> 3)
        words.append((from_near + words[at - 7] + from_far + words[at - 16]) & WORD)
    return words


def state_behind(state, block):
    """The state of 8 words that follows upon a state by a block."""
    a = state[0]
    b = state[1]
    c = state[2]
    d = state[3]
    e = state[4]
    f = state[5]
    g = state[6]
    h = state[7]
    for word, constant in zip(spread_words(block), CONSTANTS):
        turned_e = turned(e, 6) ^ turned(e, 11) ^ turned(e, 25)
        chosen = (e & f) ^ ((e ^ WORD) & g)
        first = h + turned_e + chosen + constant + word
        turned_a = turned(a, 2) ^ turned(a, 13) ^ turned(a, 22)
        majority = (a & b) ^ (a & c) ^ (b & c)
        h = g
        g = f
        f = e
        e = (d + first) & WORD
        d = c
        c = b
        b = a
        a = (first + turned_a + majority) & WORD
    return [(old + new) & WORD for old, new in zip(state, [a, b, c, d, e, f, g, h])]


def sha256(data):
    """The 32 bytes of SHA-256 of data."""
    text = padded(data)
    state = list(FIRST_STATE)
    for start in range(0, len(text), BLOCK):
        state = state_behind(state, text[start:start + BLOCK])
    digest = []
    for word in state:
        digest.extend(bytes_of(word, 4))
    return digest
