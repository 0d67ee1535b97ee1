"""Promise 1 and the row of -2, so far as they speak of tk_unpack."""

import time
import unittest

from samples import ALPHABET, KNOWN_PAIRS, NO_SIGNS, Untouched, answer, spread, written
from tokenpass.tokens import tk_pack, tk_unpack

PLENTY = 2147483647


class Read(unittest.TestCase):
    def test_known_pairs(self):
        for data, signs in KNOWN_PAIRS:
            with self.subTest(signs=signs):
                self.assertEqual(tk_unpack(PLENTY, list(signs)), answer(data))

    def test_every_byte_alone(self):
        for byte in range(256):
            self.assertEqual(tk_unpack(PLENTY, written([byte])), [1, byte])

    def test_every_two_bytes(self):
        for high in range(256):
            for low in range(256):
                self.assertEqual(tk_unpack(PLENTY, written([high, low])), [2, high, low])

    def test_each_length(self):
        for length in range(200):
            with self.subTest(length=length):
                data = spread(length)
                self.assertEqual(tk_unpack(PLENTY, written(data)), answer(data))

    def test_every_sign_at_each_place_of_four(self):
        for six, sign in enumerate(ALPHABET):
            for place in range(4):
                signs = list(b"AAAA")
                signs[place] = sign
                bits = six << (18 - 6 * place)
                self.assertEqual(tk_unpack(PLENTY, signs), [3, bits >> 16, bits >> 8 & 255, bits & 255])

    def test_what_tk_pack_wrote(self):
        for data in (list(range(256)), spread(1000), spread(1001), spread(1002), [0] * 7, [255] * 7):
            self.assertEqual(tk_unpack(PLENTY, tk_pack(PLENTY, data)[1:]), answer(data))

    def test_longest_list_in_time(self):
        data = spread(75000)
        signs = written(data)
        self.assertEqual(len(signs), 100000)
        start = time.monotonic()
        given = tk_unpack(PLENTY, signs)
        self.assertLess(time.monotonic() - start, 2)
        self.assertEqual(given, answer(data))


class Wrong(unittest.TestCase):
    def test_one_sign_behind_whole_fours(self):
        for length in (1, 5, 9, 13, 401, 99997):
            with self.subTest(length=length):
                self.assertEqual(tk_unpack(PLENTY, [ord("A")] * length), [-3])
        for sign in ALPHABET:
            self.assertEqual(tk_unpack(PLENTY, [sign]), [-3])
            self.assertEqual(tk_unpack(PLENTY, list(b"Zm9v") + [sign]), [-3])

    def test_no_sign_at_each_place(self):
        for length in (1, 2, 3, 4, 5, 6, 7, 8, 9):
            for place in range(length):
                for byte in NO_SIGNS:
                    signs = list(b"AAAAAAAAA")[:length]
                    signs[place] = byte
                    self.assertEqual(tk_unpack(PLENTY, signs), [-3], signs)

    def test_no_sign_in_a_long_list(self):
        for byte in b"=+/ \n\x00\x80\xff":
            for place in (0, 1, 50000, 99998, 99999):
                signs = [ord("A")] * 100000
                signs[place] = byte
                self.assertEqual(tk_unpack(PLENTY, signs), [-3])

    def test_written_otherwise(self):
        for text in (b"Zg==", b"Zm8=", b"Zm9v====", b"=", b"Zm9v\n", b" Zm9v", b"Zm 9v", b"Zm9v\r\nYmFy", b"Zm9v.",
                     b"+w", b"/w", b"//8", b"++++", b"////"):
            with self.subTest(text=text):
                self.assertEqual(tk_unpack(PLENTY, list(text)), [-3])

    def test_bits_left_over_after_one_byte(self):
        for before in (b"", b"Zm9v"):
            for first in ALPHABET:
                for six, sign in enumerate(ALPHABET):
                    given = tk_unpack(PLENTY, list(before) + [first, sign])
                    self.assertEqual(given == [-3], six % 16 != 0, (before, first, sign))

    def test_bits_left_over_after_two_bytes(self):
        for before in (b"", b"Zm9v"):
            for middle in ALPHABET:
                for six, sign in enumerate(ALPHABET):
                    given = tk_unpack(PLENTY, list(before) + [ord("A"), middle, sign])
                    self.assertEqual(given == [-3], six % 4 != 0, (before, middle, sign))


class Most(unittest.TestCase):
    def test_just_the_length_and_one_less(self):
        for length in list(range(1, 30)) + [1000, 1001, 1002]:
            with self.subTest(length=length):
                data = spread(length)
                self.assertEqual(tk_unpack(length, written(data)), answer(data))
                self.assertEqual(tk_unpack(length + 1, written(data)), answer(data))
                self.assertEqual(tk_unpack(length - 1, written(data)), [-7])

    def test_none_allowed(self):
        self.assertEqual(tk_unpack(0, []), [0])
        self.assertEqual(tk_unpack(0, list(b"AA")), [-7])
        self.assertEqual(tk_unpack(0, written(spread(50))), [-7])

    def test_below_zero(self):
        for most in (-1, -2, -3, -7, -2147483648):
            for text in (b"", b"AA", b"Zm8", b"Zm9v", b"A", b"AB", b"AAB", b"Zg==", b"\x00"):
                self.assertEqual(tk_unpack(most, list(text)), [-2])

    def test_a_wrong_text_ahead_of_a_small_most(self):
        for most in (0, 1, 2):
            for text in (b"A", b"AB", b"AAB", b"Zg==", b"\x00", b"Zm9vYmFyA", b"Zm9vYmFyAB", b"Zm9vYmF=", b"Zm9vYmFyAAB"):
                with self.subTest(most=most, text=text):
                    self.assertEqual(tk_unpack(most, list(text)), [-3])


class LeftAsItWas(unittest.TestCase):
    texts = (b"", b"AA", b"Zm8", b"Zm9v", b"Zm9vYmFy", b"A", b"AB", b"AAB", b"Zg==", b"Zm9v\n")

    def test_what_is_handed_in(self):
        for most in (-1, 0, 2, PLENTY):
            for text in self.texts:
                signs = list(text)
                tk_unpack(most, signs).append(9)
                self.assertEqual(signs, list(text))

    def test_not_changed_for_a_while_either(self):
        for most in (-1, 0, 2, PLENTY):
            for text in self.texts:
                tk_unpack(most, Untouched(text))

    def test_names_of_the_arguments(self):
        self.assertEqual(tk_unpack(most=1, t=list(b"Zg")), answer(b"f"))

    def test_second_call_answers_like_the_first(self):
        for most in (-1, 0, 2, PLENTY):
            for text in self.texts:
                first = tk_unpack(most, list(text))
                kept = list(first)
                first.append(9)
                tk_unpack(PLENTY, list(b"AQIDBA"))
                self.assertEqual(tk_unpack(most, list(text)), kept)

    def test_kinds(self):
        for most in (-1, 0, PLENTY):
            for text in self.texts:
                given = tk_unpack(most, list(text))
                self.assertIs(type(given), list)
                self.assertEqual({type(number) for number in given}, {int})


if __name__ == "__main__":
    unittest.main()
