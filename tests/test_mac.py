"""Promise 1 and the row of -2, so far as they speak of tk_mac."""

import base64
import hashlib
import hmac
import time
import unittest

from samples import RFC_KEY, RFC_TOKEN, Untouched, spread
from tokenpass.tokens import tk_mac

# RFC 4231, the test cases whose keys have at most 64 bytes: key, text, and HMAC with SHA-256.
KNOWN = [
    (b"\x0b" * 20, b"Hi There", "b0344c61d8db38535ca8afceaf0bf12b881dc200c9833da726e9376c2e32cff7"),
    (b"Jefe", b"what do ya want for nothing?", "5bdcc146bf60754e6a042426089575c75a003f089d2739839dec58b964ec3843"),
    (b"\xaa" * 20, b"\xdd" * 50, "773ea91e36800e46854db8ebd09181a72959098b3ef8c122d9635514ced565fe"),
    (bytes(range(1, 26)), b"\xcd" * 50, "82558a389a443c0ea4cc819899f2083a85f0faa3e578f8077a2e3ff46729665b"),
]

# Around the ends of blocks of 64 bytes, where the length and the padding move to a further block.
EDGES = (0, 1, 54, 55, 56, 57, 62, 63, 64, 65, 66, 118, 119, 120, 121, 127, 128, 129, 183, 184, 191, 192, 193, 1000)


def expected(key, data):
    """The answer by Python's own hmac."""
    return [0] + list(hmac.new(bytes(key), bytes(data), hashlib.sha256).digest())


class Answered(unittest.TestCase):
    def test_known_answers(self):
        for key, data, mac in KNOWN:
            with self.subTest(key=key):
                self.assertEqual(tk_mac(list(key), list(data)), [0] + list(bytes.fromhex(mac)))

    def test_known_start(self):
        # RFC 4231, test case 5, tells the first 16 bytes alone.
        given = tk_mac([12] * 20, list(b"Test With Truncation"))
        self.assertEqual(given[1:17], list(bytes.fromhex("a3b6167473100ee06e0c796c2955552b")))

    def test_token_of_the_standard(self):
        self.assertEqual(len(RFC_KEY), 64)
        signs, point, signature = RFC_TOKEN.rpartition(b".")
        self.assertEqual(tk_mac(list(RFC_KEY), list(signs)), [0] + list(base64.urlsafe_b64decode(signature + b"=")))

    def test_every_length_of_key(self):
        for length in range(1, 65):
            for data in ([], [7], spread(64), spread(100)):
                with self.subTest(length=length, data=len(data)):
                    self.assertEqual(tk_mac(spread(length), data), expected(spread(length), data))

    def test_edges_of_key_and_text(self):
        for length in (1, 2, 31, 32, 33, 63, 64):
            for size in EDGES:
                with self.subTest(length=length, size=size):
                    key = spread(length)
                    self.assertEqual(tk_mac(key, spread(size)), expected(key, spread(size)))

    def test_every_length_of_text(self):
        for size in range(260):
            with self.subTest(size=size):
                self.assertEqual(tk_mac([1, 2, 3], spread(size)), expected([1, 2, 3], spread(size)))

    def test_every_byte(self):
        for byte in range(256):
            self.assertEqual(tk_mac([byte], [byte]), expected([byte], [byte]))
            self.assertEqual(tk_mac([byte] * 64, [byte] * 64), expected([byte] * 64, [byte] * 64))
        self.assertEqual(tk_mac(list(range(64)), list(range(256))), expected(range(64), range(256)))

    def test_each_bit_of_the_key_counts(self):
        for length in (1, 63, 64):
            for place in (0, length // 2, length - 1):
                for bit in range(8):
                    key = spread(length)
                    key[place] ^= 1 << bit
                    self.assertEqual(tk_mac(key, [1, 2, 3]), expected(key, [1, 2, 3]))
                    self.assertNotEqual(tk_mac(key, [1, 2, 3]), tk_mac(spread(length), [1, 2, 3]))

    def test_zeros_behind_a_key_are_as_the_padding(self):
        self.assertEqual(tk_mac([5], [9]), tk_mac([5] + [0] * 63, [9]))
        self.assertEqual(tk_mac([0], [9]), tk_mac([0] * 64, [9]))

    def test_bytes_of_the_answer(self):
        seen = set()
        for size in range(200):
            given = tk_mac([size + 1], spread(size))
            self.assertEqual(len(given), 33)
            self.assertEqual(given[0], 0)
            seen.update(given[1:])
        self.assertEqual(seen, set(range(256)))

    def test_longest_text_in_time(self):
        for size in (99999, 100000):
            data = spread(size)
            start = time.monotonic()
            given = tk_mac(spread(64), data)
            self.assertLess(time.monotonic() - start, 5)
            self.assertEqual(given, expected(spread(64), data))


class Refused(unittest.TestCase):
    def test_key_of_no_bytes(self):
        for data in ([], [0], [1, 2, 3], spread(64), spread(1000)):
            self.assertEqual(tk_mac([], data), [-2])

    def test_key_of_too_many_bytes(self):
        for length in (65, 66, 128, 131):
            for data in ([], [1, 2, 3]):
                self.assertEqual(tk_mac([1] * length, data), [-2])


class LeftAsItWas(unittest.TestCase):
    lengths = [(key, size) for key in (0, 1, 63, 64) for size in (0, 1, 55, 56, 64, 150)]

    def test_what_is_handed_in(self):
        for length, size in self.lengths:
            key = spread(length)
            data = spread(size)
            tk_mac(key, data).append(9)
            self.assertEqual(key, spread(length))
            self.assertEqual(data, spread(size))

    def test_not_changed_for_a_while_either(self):
        for length, size in self.lengths:
            tk_mac(Untouched(spread(length)), Untouched(spread(size)))

    def test_one_list_as_key_and_text(self):
        both = spread(50)
        self.assertEqual(tk_mac(both, both), expected(spread(50), spread(50)))

    def test_names_of_the_arguments(self):
        self.assertEqual(tk_mac(key=[1], b=[2, 3]), expected([1], [2, 3]))

    def test_second_call_answers_like_the_first(self):
        for length, size in self.lengths:
            first = tk_mac(spread(length), spread(size))
            kept = list(first)
            first.append(9)
            tk_mac([4, 4], [1, 2, 3, 4])
            self.assertEqual(tk_mac(spread(length), spread(size)), kept)

    def test_kinds(self):
        for length, size in self.lengths:
            given = tk_mac(spread(length), spread(size))
            self.assertIs(type(given), list)
            self.assertEqual({type(number) for number in given}, {int})


if __name__ == "__main__":
    unittest.main()
