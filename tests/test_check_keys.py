"""Promise 4, so far as it speaks of tk_check's keys: -3, and 3."""

import unittest

from check_samples import KEY, KEYS, checked, headed
from samples import row, signed, spread

PLAIN = b'{"alg":"HS256"}'


def named(kid):
    """A header that has this kid, as it stands within quotes."""
    return b'{"alg":"HS256","kid":"' + kid + b'"}'


class Rows(unittest.TestCase):
    def test_no_bytes(self):
        self.assertEqual(headed(PLAIN, []), [3])
        self.assertEqual(headed(named(b"a"), []), [3])
        self.assertEqual(checked(b"", []), [1])

    def test_one_and_several(self):
        three = row(b"", KEY) + row(b"a", b"key of a") + row(b"bb", b"key of bb")
        for kid, key in ((b"a", b"key of a"), (b"bb", b"key of bb"), (b"", KEY)):
            self.assertEqual(headed(named(kid), three, key), [0])
            self.assertEqual(headed(named(kid), row(kid, key), key), [0])
            self.assertEqual(headed(named(kid), three, b"key of none"), [4])
        self.assertEqual(headed(named(b"b"), three, KEY), [3])
        self.assertEqual(headed(PLAIN, three, KEY), [0])
        self.assertEqual(headed(PLAIN, three[len(row(b"", KEY)):], KEY), [3])

    def test_cut_short_at_each_place(self):
        parts = [row(b"", KEY), row(b"name", b"k"), row(b"x" * 255, spread(64)), row(b"z", spread(3))]
        whole = sum(parts, [])
        ends = [sum(len(part) for part in parts[:many]) for many in range(len(parts) + 1)]
        for length in range(len(whole) + 1):
            answer = [-3]
            if length in ends:
                answer = [3] if length == 0 else [0]
            self.assertEqual(headed(PLAIN, whole[:length]), answer, length)

    def test_a_byte_too_many(self):
        for byte in range(256):
            self.assertEqual(headed(PLAIN, KEYS + [byte]), [-3])

    def test_length_of_a_key(self):
        for length in range(1, 65):
            self.assertEqual(headed(PLAIN, row(b"", spread(length)), spread(length)), [0])
            self.assertEqual(headed(named(b"n"), row(b"n", spread(length)) + KEYS, spread(length)), [0])
        for length in (0, 65, 66, 100, 128, 255):
            for keys in (row(b"", [1] * length), row(b"name", [1] * length), KEYS + row(b"x", [1] * length),
                         row(b"x", [1] * length) + KEYS, KEYS + row(b"", [1] * length) + row(b"y", KEY)):
                self.assertEqual(headed(PLAIN, keys), [-3], length)

    def test_length_of_a_name(self):
        for length in (0, 1, 2, 63, 64, 65, 127, 128, 254, 255):
            name = b"n" * length
            for keys in (row(name, KEY), row(b"a", b"a") + row(name, KEY), row(name, KEY) + row(b"a", b"a")):
                self.assertEqual(headed(named(name), keys), [0], length)
                self.assertEqual(headed(named(name + b"n"), keys), [3], length)

    def test_names_of_any_bytes(self):
        for byte in range(256):
            for name in ([byte], [byte] * 3, [97, byte]):
                self.assertEqual(headed(PLAIN, row(name, b"other") + KEYS), [0])

    def test_ahead_of_what_is_wrong_with_the_token(self):
        for token in (b"", b"a", b"..", b"a.b.c", b"e30.e30.", bytes(signed(b"{}", b"{}", KEY))):
            for keys in ([0], [1], [0, 0], [255], [0, 65] + [1] * 65, [0, 2, 1], KEYS + [0]):
                self.assertEqual(checked(token, keys), [-3])

    def test_a_wrong_row_behind_the_one_that_counts(self):
        self.assertEqual(headed(named(b"a"), row(b"a", KEY) + [0, 0]), [-3])
        self.assertEqual(headed(named(b"a"), row(b"a", KEY) + [3, 1]), [-3])


class WhichRow(unittest.TestCase):
    def test_the_first_of_a_name_counts(self):
        for name in (b"", b"a", b"x" * 255):
            first = row(name, b"first")
            second = row(name, b"second")
            other = row(b"other", b"another")
            for keys in (first + second, first + other + second, other + first + second, first + second + second):
                self.assertEqual(headed(named(name), keys, b"first"), [0])
                self.assertEqual(headed(named(name), keys, b"second"), [4])

    def test_no_kid_is_the_empty_name(self):
        keys = row(b"a", b"key of a") + row(b"", KEY)
        self.assertEqual(headed(PLAIN, keys), [0])
        self.assertEqual(headed(named(b""), keys), [0])
        self.assertEqual(headed(PLAIN, keys, b"key of a"), [4])
        self.assertEqual(headed(PLAIN, row(b"a", KEY)), [3])
        self.assertEqual(headed(PLAIN, row([0], KEY)), [3])
        self.assertEqual(headed(PLAIN, row(b"kid", KEY)), [3])

    def test_names_that_are_near(self):
        for name in (b"", b"nam", b"ame", b"Name", b"NAME", b"name ", b" name", b"name\x00", b"nname", b"eman"):
            self.assertEqual(headed(named(b"name"), row(name, KEY)), [3], name)

    def test_kid_in_escapes(self):
        for kid, name in ((b"\\u006eame", b"name"), (b"na\\u006De", b"name"), (b"\\n\\t", b"\n\t"), (b'\\"', b'"'),
                          (b"\\\\", b"\\"), (b"\\/", b"/"), (b"\\u0000", b"\x00"), (b"\\u00e9", b"\xc3\xa9"),
                          (b"\xc3\xa9", b"\xc3\xa9"), (b"\\u20ac", b"\xe2\x82\xac"),
                          (b"\\ud83d\\ude00", b"\xf0\x9f\x98\x80"), (b"\xf0\x9f\x98\x80", b"\xf0\x9f\x98\x80")):
            self.assertEqual(headed(named(kid), row(name, KEY)), [0], kid)
            if kid != name:
                self.assertEqual(headed(named(kid), row(kid, KEY)), [3], kid)

    def test_names_that_are_no_utf8_are_never_meant(self):
        for name in (b"\xe9", b"\x80", b"\xed\xa0\xbd", b"\xc3"):
            self.assertEqual(headed(named(b"\\u00e9"), row(name, KEY)), [3])


if __name__ == "__main__":
    unittest.main()
