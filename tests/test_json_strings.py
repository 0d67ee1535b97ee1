"""Promise 2, so far as it speaks of strings: UTF-8, escapes, and names that come twice."""

import itertools
import json
import unittest

from json_oracle import expected
from tokenpass.tokens import tk_json

EDGE_CODES = (
    0x20, 0x21, 0x7E, 0x7F, 0x80, 0x81, 0xE9, 0x7FF, 0x800, 0x801, 0xFFF, 0x1000, 0x20AC, 0xCFFF, 0xD000, 0xD7FF,
    0xE000, 0xFDD0, 0xFEFF, 0xFFFD, 0xFFFE, 0xFFFF, 0x10000, 0x10001, 0x1F600, 0x3FFFF, 0x40000, 0xFFFFF, 0x100000,
    0x10FFFE, 0x10FFFF,
)

NO_UTF8 = [
    # Bytes that begin nothing, and a sign's further bytes by themselves.
    b"\x80", b"\xbf", b"\xc0", b"\xc1", b"\xf5", b"\xf8", b"\xfc", b"\xfe", b"\xff", b"a\x80", b"\xc3\xa9\xa9",
    # Overlong forms.
    b"\xc0\x80", b"\xc0\xaf", b"\xc1\xbf", b"\xe0\x80\x80", b"\xe0\x9f\xbf", b"\xf0\x80\x80\x80", b"\xf0\x8f\xbf\xbf",
    b"\xf8\x88\x80\x80\x80", b"\xfc\x84\x80\x80\x80\x80", b"\xc0\xa2", b"\xe0\x80\xa2",
    # Surrogates, alone and in pairs.
    b"\xed\xa0\x80", b"\xed\xaf\xbf", b"\xed\xb0\x80", b"\xed\xbf\xbf", b"\xed\xa0\xbd\xed\xb8\x80",
    # Above 0x10FFFF.
    b"\xf4\x90\x80\x80", b"\xf4\xbf\xbf\xbf", b"\xf5\x80\x80\x80", b"\xf7\xbf\xbf\xbf",
    # Cut short.
    b"\xc3", b"\xe2", b"\xe2\x82", b"\xf0", b"\xf0\x9f", b"\xf0\x9f\x98", b"\xc3a", b"\xe2\x82a", b"\xe2a\xac",
    b"\xf0\x9f\x98a", b"\xf0\x9fa\x80", b"\xf0a\x98\x80", b"\xe2\x82\xc3\xa9",
]


def string(inner):
    return [34] + list(inner) + [34]


def escaped(code):
    """The sign of this number by \\u escapes."""
    units = chr(code).encode("utf-16-be", "surrogatepass").hex()
    return b"".join(b"\\u" + units[place:place + 4].encode() for place in range(0, len(units), 4))


def two_names(first, second):
    return list(b'{"' + first + b'":0,"' + second + b'":1}')


class Utf8(unittest.TestCase):
    def held(self, inner):
        """A string of these bytes counts, as a value and as a name, just if they are valid UTF-8."""
        try:
            bytes(inner).decode("utf-8")
            counts = True
        except UnicodeDecodeError:
            counts = False
        self.assertEqual(tk_json(string(inner)), [1] if counts else [-3], bytes(inner))
        text = b"{" + bytes(string(inner)) + b":0}"
        self.assertEqual(tk_json(list(text)), [2] if counts else [-3], text)

    def test_every_byte_alone(self):
        for byte in range(256):
            counts = 32 <= byte <= 127 and byte not in b'"\\'
            self.assertEqual(tk_json(string([byte])), [1] if counts else [-3], byte)
            self.assertEqual(tk_json(string([97, byte, 122])), [1] if counts else [-3], byte)

    def test_below_thirty_two(self):
        for byte in range(32):
            self.assertEqual(tk_json(list(b'{"a') + [byte] + list(b'":0}')), [-3])
            self.assertEqual(tk_json(list(b'["a') + [byte] + list(b'"]')), [-3])
        self.assertEqual(tk_json(string([32])), [1])

    def test_edges(self):
        for code in EDGE_CODES:
            with self.subTest(code=hex(code)):
                sign = chr(code).encode("utf-8")
                if sign != b'"':
                    self.assertEqual(tk_json(string(sign)), [1])
                    self.assertEqual(tk_json(string(b"a" + sign + sign + b"b")), [1])

    def test_no_utf8(self):
        for inner in NO_UTF8:
            with self.subTest(inner=inner):
                for text in (inner, b"a" + inner + b"b", b"\xc3\xa9" + inner, inner + b"\xc3\xa9"):
                    self.assertEqual(tk_json(string(text)), [-3])
                self.assertEqual(tk_json(two_names(b"a", inner)), [-3])
                self.assertEqual(tk_json([34] + list(inner)), [-3])

    def test_every_two_bytes(self):
        for first in range(128, 256):
            for second in range(256):
                if second not in b'"\\' and second >= 32:
                    self.held([first, second])

    def test_three_bytes(self):
        for first in range(0xDE, 0xF2):
            for second in range(0x7E, 0xC3):
                for third in (0x20, 0x7F, 0x80, 0xA0, 0xBF, 0xC0, 0xFF):
                    self.held([first, second, third])

    def test_four_bytes(self):
        for first in range(0xEE, 0x100):
            for second in range(0x7E, 0xC3):
                for third, fourth in itertools.product((0x7F, 0x80, 0xBF, 0xC0), repeat=2):
                    self.held([first, second, third, fourth])

    def test_no_sign_is_left_out(self):
        codes = [code for code in range(128, 0x110000, 97) if not 0xD800 <= code <= 0xDFFF]
        for start in range(0, len(codes), 50):
            inner = "".join(chr(code) for code in codes[start:start + 50]).encode("utf-8")
            self.assertEqual(tk_json(string(inner)), [1])

    def test_outside_a_string(self):
        for sign in (b"\xc3\xa9", b"\xe2\x82\xac", b"\xf0\x9f\x98\x80", b"\x80"):
            for text in (sign, b"[" + sign + b"]", b'"a"' + sign, sign + b'"a"', b'{"a"' + sign + b":0}"):
                self.assertEqual(tk_json(list(text)), [-3])


class Ends(unittest.TestCase):
    def test_quotes(self):
        for text in (b'"', b'"a', b'a"', b'"a"b"', b'"""', b"'a'", b'"a\'', b'"\\"', b'"\\', b'"\\\\\\"', b'"\n"'):
            with self.subTest(text=text):
                self.assertEqual(tk_json(list(text)), [-3])

    def test_backslashes_ahead_of_the_quote(self):
        for many in range(12):
            self.assertEqual(tk_json(string(b"\\" * many)), [1] if many % 2 == 0 else [-3])

    def test_long_strings(self):
        for inner, size in ((b"a", 99998), (b"\xc3\xa9", 49999), (b"\\n", 49999), (b"\\u00e9", 16666),
                            (b"\xf0\x9f\x98\x80", 24999)):
            self.assertEqual(tk_json(string(inner * size)), [1])
            self.assertEqual(tk_json(string(inner * size)[:-1]), [-3])


class Escapes(unittest.TestCase):
    def test_every_byte_behind_a_backslash(self):
        for byte in range(256):
            counts = byte in b'"\\/bfnrt'
            # A quote behind the backslash is none that ends the string.
            self.assertEqual(tk_json(string([92, byte])), [1] if counts else [-3], byte)
            self.assertEqual(tk_json(string([97, 92, byte, 98])), [1] if counts else [-3], byte)

    def test_what_each_stands_for(self):
        for escape, code in ((b'\\"', 34), (b"\\\\", 92), (b"\\/", 47), (b"\\b", 8), (b"\\f", 12), (b"\\n", 10),
                             (b"\\r", 13), (b"\\t", 9)):
            for other in range(128):
                answer = [-3] if other == code else [3]
                self.assertEqual(tk_json(two_names(escape, escaped(other))), answer, (escape, other))

    def test_hexadecimal_digits(self):
        for place in range(4):
            for byte in range(256):
                digits = list(b"0041")
                digits[place] = byte
                counts = byte in b"0123456789abcdefABCDEF"
                self.assertEqual(tk_json(string(b"\\u" + bytes(digits))), [1] if counts else [-3], bytes(digits))

    def test_too_few_digits(self):
        for digits in (b"", b"0", b"00", b"004", b"004g", b" 041", b"+041", b"-041", b"0x41", b"00 1", b"0_41"):
            for behind in (b"", b" ", b"z", b"\\n"):
                self.assertEqual(tk_json(string(b"\\u" + digits + behind)), [-3], digits + behind)
            self.assertEqual(tk_json(list(b'"\\u' + digits)), [-3])

    def test_more_than_four_digits(self):
        self.assertEqual(tk_json(string(b"\\u00411")), [1])
        self.assertEqual(tk_json(two_names(b"\\u00411", b"A1")), [-3])

    def test_other_ways_to_write(self):
        for inner in (b"\\U0041", b"\\x41", b"\\u{41}", b"\\0", b"\\101", b"\\'", b"\\a", b"\\v", b"\\e", b"\\ ",
                      b"\\\n"):
            self.assertEqual(tk_json(string(inner)), [-3], inner)

    def test_every_number_alone(self):
        for code in range(0x10000):
            counts = not 0xD800 <= code <= 0xDFFF
            written = b"\\u%04x" % code if code % 2 == 0 else b"\\u%04X" % code
            self.assertEqual(tk_json(string(written)), [1] if counts else [-3], written)

    def test_escape_outside_a_string(self):
        for text in (b"\\u0022a\\u0022", b"[\\n]", b'\\"a"', b"tr\\u0075e", b"\\u005b]"):
            self.assertEqual(tk_json(list(text)), [-3])


class Surrogates(unittest.TestCase):
    highs = (b"\\ud800", b"\\ud83d", b"\\uDBFF")
    lows = (b"\\udc00", b"\\ude00", b"\\uDFFF")

    def test_pairs(self):
        for high, low in itertools.product(self.highs, self.lows):
            self.assertEqual(tk_json(string(high + low)), [1])
            self.assertEqual(tk_json(string(b"a" + high + low + high + low + b"b")), [1])

    def test_alone(self):
        for unit in self.highs + self.lows:
            for inner in (unit, b"a" + unit, unit + b"a", unit + b"\\n", unit + b"\\u0041", b"\\u0041" + unit,
                          unit + b"\xed\xb0\x80", unit + b"\xf0\x9f\x98\x80", unit + b"\\\\udc00", unit + b"\\"):
                self.assertEqual(tk_json(string(inner)), [-3], inner)

    def test_wrong_order(self):
        for high, low in itertools.product(self.highs, self.lows):
            for inner in (low + high, high + high, low + low, high + high + low, high + low + low, low + high + low,
                          high + b" " + low, high + b"a" + low, high + b"\\t" + low, high + low[1:], high + low[2:]):
                self.assertEqual(tk_json(string(inner)), [-3], inner)

    def test_split_between_strings(self):
        self.assertEqual(tk_json(list(b'["\\ud83d","\\ude00"]')), [-3])
        self.assertEqual(tk_json(list(b'{"\\ud83d":"\\ude00"}')), [-3])

    def test_low_half_cut_short(self):
        whole = b"\\ud83d\\ude00"
        for length in range(1, len(whole)):
            self.assertEqual(tk_json(string(whole[:length])), [-3])
            self.assertEqual(tk_json([34] + list(whole[:length])), [-3])

    def test_every_unit_behind_a_high_one(self):
        for code in list(range(0, 0x10000, 251)) + list(range(0xD7F0, 0xE010)):
            counts = 0xDC00 <= code <= 0xDFFF
            self.assertEqual(tk_json(string(b"\\ud83d\\u%04x" % code)), [1] if counts else [-3], hex(code))

    def test_every_unit_ahead_of_a_low_one(self):
        for code in list(range(0, 0x10000, 251)) + list(range(0xD7F0, 0xE010)):
            counts = 0xD800 <= code <= 0xDBFF
            self.assertEqual(tk_json(string(b"\\u%04x\\ude00" % code)), [1] if counts else [-3], hex(code))


class Names(unittest.TestCase):
    def test_twice(self):
        for text in (b'{"a":1,"a":1}', b'{"a":1,"a":2}', b'{"a":1,"b":2,"a":3}', b'{"":1,"":2}', b'{"a":{},"a":[]}',
                     b'{"a":1,"b":2,"c":3,"d":4,"d":5}', b'{ "a" : 1 , "a" : 2 }', b'[{"a":1,"a":2}]',
                     b'{"x":{"a":1,"a":2}}', b'[1,{"x":[{"a":1,"b":{},"a":2}]}]', b'{"a":{"a":1},"a":2}'):
            with self.subTest(text=text):
                self.assertEqual(tk_json(list(text)), [-3])

    def test_twice_but_not_in_one_object(self):
        for text, count in ((b'[{"a":1},{"a":2}]', 5), (b'{"a":{"a":{"a":1}}}', 4), (b'{"x":{"a":1},"y":{"a":2}}', 5),
                            (b'{"a":{"b":1},"b":{"a":2}}', 5), (b'{"a":"a","b":"a"}', 3), (b'["a","a","a"]', 4),
                            (b'{"a":["b","b"],"b":["a"]}', 6), (b'[{"":1},{"":2},{"":{"":3}}]', 8)):
            with self.subTest(text=text):
                self.assertEqual(tk_json(list(text)), [count])

    def test_not_the_same(self):
        for first, second in ((b"a", b"A"), (b"a", b"b"), (b"a", b"aa"), (b"a", b"a "), (b"", b" "), (b"", b"\\u0000"),
                              (b"a", b"a\\u0000"), (b"\\n", b"n"), (b"\\\\n", b"\\n"), (b"\\\\u0061", b"a"),
                              (b"e\xcc\x81", b"\xc3\xa9"), (b"\xef\xbc\xa1", b"A"), (b"ab", b"ba"), (b"1", b"01"),
                              (b"\\u00e9", b"\\u00c3\\u00a9"), (b"\\ud83d\\ude00", b"\\ud83d\\ude01")):
            with self.subTest(first=first, second=second):
                self.assertEqual(tk_json(two_names(first, second)), [3])
                self.assertEqual(tk_json(two_names(second, first)), [3])

    def test_by_way_of_an_escape(self):
        for first, second in ((b"a", b"\\u0061"), (b"\\u0041", b"A"), (b"/", b"\\/"), (b"\\/", b"\\u002f"),
                              (b"\\u002F", b"\\u002f"), (b"\\n", b"\\u000a"), (b'\\"', b"\\u0022"),
                              (b"\\\\", b"\\u005C"),
                              (b"exp", b"\\u0065xp"), (b"exp", b"ex\\u0070"), (b"\xc3\xa9", b"\\u00e9"),
                              (b"\\u00E9", b"\\u00e9"), (b"\xe2\x82\xac", b"\\u20aC"), (b"\\b\\f", b"\\u0008\\u000c"),
                              (b"\xf0\x9f\x98\x80", b"\\ud83d\\ude00"), (b"\\uD83D\\uDE00", b"\\ud83d\\ude00")):
            with self.subTest(first=first, second=second):
                self.assertEqual(tk_json(two_names(first, second)), [-3])
                self.assertEqual(tk_json(two_names(second, first)), [-3])

    def test_an_escape_is_its_sign(self):
        codes = list(range(0, 0xD800, 61)) + list(range(0xE000, 0x110000, 997)) + list(EDGE_CODES)
        for code in codes:
            if code >= 32 and code not in (34, 92):
                sign = chr(code).encode("utf-8")
                self.assertEqual(tk_json(two_names(sign, escaped(code))), [-3], hex(code))

    def test_numbers_near_to_one_another_are_not_the_same(self):
        codes = [code for code in EDGE_CODES if code not in (0x21, 0x7E, 0xFFFF, 0x10FFFF)]
        for code in codes:
            for other in (code + 1, code ^ 0x40, code ^ 0x100, code ^ 0x1000, code + 0x10000):
                if other < 0x110000 and not 0xD800 <= other <= 0xDFFF:
                    self.assertEqual(tk_json(two_names(escaped(code), escaped(other))), [3], (hex(code), hex(other)))

    def test_all_numbers_in_one_object(self):
        names = [b'"%s":0' % escaped(code) for code in range(0, 0x110000, 83) if not 0xD800 <= code <= 0xDFFF]
        text = b"{" + b",".join(names) + b"}"
        self.assertEqual(tk_json(list(text)), [len(names) + 1])
        self.assertEqual(tk_json(list(text[:-1] + b"," + names[500] + b"}")), [-3])

    def test_a_refused_text_leaves_no_name(self):
        self.assertEqual(tk_json(list(b'{"a":1,"b":')), [-3])
        self.assertEqual(tk_json(list(b'{"a":1,"b":2}')), [3])

    def test_all_short_names(self):
        signs = (b"a", b"\\u0061", b"\\n", b"\\u000a", b"\\\\", b"u", b"\xc3\xa9")
        names = [b"".join(row) for length in range(3) for row in itertools.product(signs, repeat=length)]
        for first, second in itertools.product(names, names):
            text = two_names(first, second)
            same = json.loads(b'"' + first + b'"') == json.loads(b'"' + second + b'"')
            self.assertEqual(tk_json(text), [-3] if same else [3], bytes(text))
            self.assertEqual(expected(text), [-3] if same else [3], bytes(text))


if __name__ == "__main__":
    unittest.main()
