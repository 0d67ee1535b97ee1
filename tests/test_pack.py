"""Promise 1 and the row of -2, so far as they speak of tk_pack."""

import time
import unittest

from samples import ALPHABET, KNOWN_PAIRS, Untouched, answer, spread, written
from tokenpass.tokens import tk_pack

PLENTY = 2147483647


class Written(unittest.TestCase):
    def test_known_pairs(self):
        for data, signs in KNOWN_PAIRS:
            with self.subTest(data=data):
                self.assertEqual(tk_pack(PLENTY, list(data)), answer(signs))

    def test_every_byte_alone(self):
        for byte in range(256):
            self.assertEqual(tk_pack(PLENTY, [byte]), answer(written([byte])))

    def test_every_two_bytes(self):
        for high in range(256):
            for low in range(256):
                self.assertEqual(tk_pack(PLENTY, [high, low]), answer(written([high, low])))

    def test_every_byte_at_each_place_of_three(self):
        for byte in range(256):
            for data in ([byte, 0, 0], [0, byte, 255], [255, 255, byte]):
                self.assertEqual(tk_pack(PLENTY, data), answer(written(data)))

    def test_each_length(self):
        for length in range(200):
            with self.subTest(length=length):
                data = spread(length)
                self.assertEqual(tk_pack(PLENTY, data), answer(written(data)))

    def test_all_bytes_in_one_list(self):
        data = list(range(256))
        self.assertEqual(tk_pack(PLENTY, data), answer(written(data)))

    def test_every_sign_comes_up(self):
        seen = tk_pack(PLENTY, list(range(256)))[1:]
        self.assertEqual(set(seen), set(ALPHABET))
        for six in range(64):
            self.assertEqual(tk_pack(PLENTY, [six * 4])[1], ALPHABET[six])

    def test_how_many_signs(self):
        for length, signs in ((0, 0), (1, 2), (2, 3), (3, 4), (4, 6), (5, 7), (6, 8), (99, 132)):
            self.assertEqual(tk_pack(PLENTY, [200] * length)[0], signs)

    def test_longest_list_in_time(self):
        data = spread(100000)
        start = time.monotonic()
        given = tk_pack(PLENTY, data)
        self.assertLess(time.monotonic() - start, 2)
        self.assertEqual(given, answer(written(data)))


class Most(unittest.TestCase):
    def test_just_the_length_and_one_less(self):
        for length in list(range(1, 30)) + [1000, 1001, 1002]:
            with self.subTest(length=length):
                data = spread(length)
                signs = written(data)
                self.assertEqual(tk_pack(len(signs), data), answer(signs))
                self.assertEqual(tk_pack(len(signs) + 1, data), answer(signs))
                self.assertEqual(tk_pack(len(signs) - 1, data), [-7])

    def test_the_signs_are_counted_not_the_bytes(self):
        self.assertEqual(tk_pack(3, [1, 2, 3]), [-7])
        self.assertEqual(tk_pack(1, [1]), [-7])

    def test_none_allowed(self):
        self.assertEqual(tk_pack(0, []), [0])
        self.assertEqual(tk_pack(0, [0]), [-7])
        self.assertEqual(tk_pack(0, spread(50)), [-7])

    def test_below_zero(self):
        for most in (-1, -2, -7, -2147483648):
            for data in ([], [0], [255, 255], spread(50)):
                self.assertEqual(tk_pack(most, data), [-2])


class LeftAsItWas(unittest.TestCase):
    def test_what_is_handed_in(self):
        for most in (-1, 0, 5, PLENTY):
            for length in (0, 1, 2, 3, 50):
                data = spread(length)
                tk_pack(most, data).append(9)
                self.assertEqual(data, spread(length))

    def test_not_changed_for_a_while_either(self):
        for most in (-1, 0, 5, PLENTY):
            for length in (0, 1, 2, 3, 50):
                tk_pack(most, Untouched(spread(length)))

    def test_names_of_the_arguments(self):
        self.assertEqual(tk_pack(most=2, b=[102]), answer(b"Zg"))

    def test_second_call_answers_like_the_first(self):
        for most in (-1, 0, 5, PLENTY):
            for length in (0, 1, 2, 3, 50):
                first = tk_pack(most, spread(length))
                kept = list(first)
                first.append(9)
                tk_pack(PLENTY, [1, 2, 3, 4])
                self.assertEqual(tk_pack(most, spread(length)), kept)

    def test_kinds(self):
        for most in (-1, 0, PLENTY):
            given = tk_pack(most, spread(50))
            self.assertIs(type(given), list)
            self.assertEqual({type(number) for number in given}, {int})


if __name__ == "__main__":
    unittest.main()
