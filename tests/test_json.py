"""Promise 2: how many values tk_json counts, and what is no JSON. Strings have test_json_strings.py."""

import itertools
import json
import random
import time
import unittest

from json_oracle import expected
from samples import Untouched
from tokenpass.tokens import tk_json

BLANKS = b" \t\n\r"

# The sample texts of RFC 8259, section 13.
IMAGE = b"""{
    "Image": {
        "Width":  800,
        "Height": 600,
        "Title":  "View from 15th Floor",
        "Thumbnail": {
            "Url":    "http://www.example.com/image/481989943",
            "Height": 125,
            "Width":  100
        },
        "Animated" : false,
        "IDs": [116, 943, 234, 38793]
      }
  }"""
CITIES = b"""[
    {
       "precision": "zip", "Latitude":  37.7668, "Longitude": -122.3959, "Address": "",
       "City": "SAN FRANCISCO", "State": "CA", "Zip": "94107", "Country": "US"
    },
    {
       "precision": "zip", "Latitude":  37.371991, "Longitude": -122.026020, "Address": "",
       "City": "SUNNYVALE", "State": "CA", "Zip": "94085", "Country": "US"
    }
  ]"""

COUNTED = [
    (b"null", 1),
    (b"true", 1),
    (b"false", 1),
    (b"0", 1),
    (b"-12.5e-3", 1),
    (b'""', 1),
    (b'"a"', 1),
    (b"[]", 1),
    (b"{}", 1),
    (b"[null]", 2),
    (b"[1,2,3]", 4),
    (b"[[]]", 2),
    (b"[[],[]]", 3),
    (b"[{}]", 2),
    (b"[[1,[2]],3]", 6),
    (b'{"a":1}', 2),
    (b'{"a":null,"b":true}', 3),
    (b'{"a":{}}', 2),
    (b'{"a":[]}', 2),
    (b'{"a":{"b":{"c":"d"}}}', 4),
    (b'{"a":[1,"2",{"b":false}],"c":-0}', 7),
    (b'[null,true,false,0,"",[],{}]', 8),
    (b'{"":null,"a":true,"b":false,"c":0,"d":"","e":[],"f":{}}', 8),
    (IMAGE, 15),
    (CITIES, 19),
    (b'"Hello world!"', 1),
    (b"42", 1),
]

NUMBERS = [
    b"0", b"-0", b"1", b"9", b"10", b"-1", b"-10", b"1234567890", b"0.0", b"0.5", b"-0.5", b"1.25", b"0.00", b"10.01",
    b"1e5", b"1E5", b"1e+5", b"1e-5", b"1E+05", b"1E-05", b"0e0", b"-0e-0", b"0E+0", b"1.5e3", b"-1.5E-3", b"0.0e00",
    b"1e999999", b"18446744073709551616", b"0.10", b"100", b"1.0", b"1e0",
]

NO_NUMBERS = [
    b"-", b"+", b"+1", b"+0", b"--1", b"-+1", b"01", b"00", b"-01", b"-00", b"007", b"1.", b"-1.", b".5", b"-.5", b".",
    b"0.", b"1.e5", b".e5", b"1..5", b"1.5.5", b"1e", b"1E", b"1e+", b"1e-", b"1e+-5", b"1e--5", b"1ee5", b"1e5.5",
    b"1e5e5", b"e5", b"E5", b"-e5", b"0x1", b"0X1F", b"1a", b"1_000", b"1,000", b"1 000", b"- 1", b"1 .5", b"1. 5",
    b"1 e5", b"1e 5", b"0b1", b"0o7", b"1f", b"1L", b"NaN", b"nan", b"-NaN", b"Infinity", b"-Infinity", b"inf", b"1/2",
    b"00.5", b"01.5", b"0-1", b"1-1", b"1+1", b"\xd9\xa1", b"1\xd9\xa1", b"\xef\xbc\x91",
]

WRONG = [
    b"", b" ", b"\n", b" \t\r\n ", b"1 2", b"1,2", b"1,", b",1", b",", b":", b"null null", b"[] []", b"{}{}", b"[]1",
    b'""""', b'"a" "b"', b"nul", b"n", b"nulll", b"null1", b"NULL", b"Null", b"nULL", b"tru", b"truee", b"True",
    b"TRUE", b"fals", b"falsee", b"False", b"FALSE", b"f", b"t", b"nu ll", b"n ull", b"truefalse", b"nil", b"None",
    b"undefined", b"[", b"]", b"[1", b"[1,", b"[1,]", b"[,]", b"[,1]", b"[1,,2]", b"[1 2]", b"[1;2]", b"[1]]",
    b"[[1]", b"[1}", b"[1:2]", b'["a":1]', b"[", b"[[", b"[]]", b"[ ", b"[\x00]", b"{", b"}", b"{}}", b"{{}}", b"{1}",
    b"{1:2}", b"{null:1}", b"{a:1}", b"{'a':1}", b'{"a"}', b'{"a":}', b'{"a" 1}', b'{"a",1}', b'{"a":1,}', b'{,"a":1}',
    b'{"a":1,,"b":2}', b'{"a":1 "b":2}', b'{"a":1;"b":2}', b'{"a"::1}', b'{"a":1:2}', b'{"a":1', b'{"a":1,', b'{"a":',
    b'{"a"', b'{"a', b'{"a":1]', b'{"a":1,"b"}', b'{"a":1,"b":}', b'{"a":1,2}', b"{[]:1}", b'{{"a":1}:2}', b'{:1}',
    b"(1)", b"'a'", b"`a`", b"a", b"/**/1", b"1//", b"1#", b"# 1", b"<!-- -->1", b"1;", b"\\", b"\\n", b"\\u0031",
    b"\xef\xbb\xbf1", b"1\xef\xbb\xbf", b"\xef\xbb\xbf", b"1\x00", b"\x001", b"\x00", b"\x80", b"\xff", b"\xfe\xff1",
    b"1\x1a", b"\xc2\xa01", b"[1,\xe2\x80\xa82]", b"1\x00\x00\x00", b"\x00\x00\x001", b'[1,"a', b'["a]', b"[nul]",
]


def arrays(depth, inner=b""):
    return b"[" * depth + inner + b"]" * depth


def objects(depth, inner=b"0"):
    return b'{"a":' * depth + inner + b"}" * depth


def mixed(depth, inner=b"0"):
    """Objects in arrays in objects, so many in all."""
    text = inner
    for step in range(depth):
        text = b"[" + text + b"]" if step % 2 == 0 else b'{"a":' + text + b"}"
    return text


class Counted(unittest.TestCase):
    def test_known_counts(self):
        for text, count in COUNTED:
            with self.subTest(text=text):
                self.assertEqual(tk_json(list(text)), [count])
                self.assertEqual(expected(text), [count])

    def test_each_kind_within_each(self):
        kinds = [b"null", b"true", b"false", b"0", b"-1.5e2", b'""', b'"x\\n"', b"[]", b"{}", b"[1]", b'{"z":1}']
        for first, second in itertools.product(kinds, kinds):
            one = tk_json(list(first))[0]
            two = tk_json(list(second))[0]
            self.assertEqual(tk_json(list(b"[" + first + b"," + second + b"]")), [1 + one + two])
            self.assertEqual(tk_json(list(b'{"a":' + first + b',"b":' + second + b"}")), [1 + one + two])

    def test_names_are_no_values(self):
        self.assertEqual(tk_json(list(b'{"a":"b"}')), [2])
        self.assertEqual(tk_json(list(b'{"null":"null","1":"1"}')), [3])

    def test_what_looks_like_more_within_a_string(self):
        self.assertEqual(tk_json(list(b'["[1,2]","{","}",",",":","\\"","]"]')), [8])
        self.assertEqual(tk_json(list(b'{"[":"]","{":"}","\\"":1}')), [4])


class Blanks(unittest.TestCase):
    def test_each_blank_at_each_place(self):
        parts = (b"{", b'"a"', b":", b"[", b"1", b",", b"null", b"]", b",", b'"b"', b":", b"{", b"}", b"}")
        for place in range(len(parts) + 1):
            for blank in (b" ", b"\t", b"\n", b"\r", BLANKS, b"\r\n\r\n", b"   "):
                text = b"".join(parts[:place]) + blank + b"".join(parts[place:])
                self.assertEqual(tk_json(list(text)), [5], text)

    def test_each_blank_around_each_kind(self):
        for value in (b"null", b"true", b"false", b"0", b"-1", b'"a"', b"[]", b"{}"):
            for blank in (b" ", b"\t", b"\n", b"\r", BLANKS * 3):
                for text in (blank + value, value + blank, blank + value + blank):
                    self.assertEqual(tk_json(list(text)), [1], text)

    def test_within_empty_ones(self):
        for blank in (b" ", b"\t", b"\n", b"\r", BLANKS):
            self.assertEqual(tk_json(list(b"[" + blank + b"]")), [1])
            self.assertEqual(tk_json(list(b"{" + blank + b"}")), [1])

    def test_every_other_byte_is_none(self):
        parts = (b"{", b'"a"', b":", b"[", b"null", b",", b"true", b"]", b"}")
        for byte in range(256):
            for place in range(len(parts) + 1):
                text = b"".join(parts[:place]) + bytes([byte]) + b"".join(parts[place:])
                self.assertEqual(tk_json(list(text)), [4] if byte in BLANKS else [-3], text)


class Numbers(unittest.TestCase):
    def test_as_the_grammar_has_them(self):
        for number in NUMBERS:
            with self.subTest(number=number):
                self.assertEqual(tk_json(list(number)), [1])
                self.assertEqual(tk_json(list(b"[" + number + b"]")), [2])
                self.assertEqual(tk_json(list(b"[" + number + b"," + number + b" ]")), [3])
                self.assertEqual(tk_json(list(b'{"a":' + number + b"}")), [2])

    def test_as_it_has_not(self):
        for number in NO_NUMBERS:
            with self.subTest(number=number):
                self.assertEqual(tk_json(list(number)), [-3])
                self.assertEqual(tk_json(list(b'{"a":' + number + b"}")), [-3])
                if b"," not in number:
                    self.assertEqual(tk_json(list(b"[" + number + b"]")), [-3])

    def test_all_short_ones(self):
        for length in range(1, 6):
            for signs in itertools.product(b"-+01.eE", repeat=length):
                self.assertEqual(tk_json(list(signs)), expected(signs), bytes(signs))

    def test_every_byte_behind_a_number(self):
        for number in (b"0", b"1", b"-0", b"1.5", b"1e5"):
            for byte in range(256):
                text = list(number) + [byte]
                self.assertEqual(tk_json(text), expected(text), bytes(text))

    def test_long_ones(self):
        nines = b"9" * 30000
        for number in (nines, b"-" + nines, b"0." + nines, b"1e" + nines, nines + b"." + nines + b"e-" + nines):
            self.assertEqual(tk_json(list(number)), [1])
            self.assertEqual(tk_json(list(number + b".")), [-3])


class Wrong(unittest.TestCase):
    def test_no_json(self):
        for text in WRONG:
            with self.subTest(text=text):
                self.assertEqual(tk_json(list(text)), [-3])
                self.assertEqual(expected(text), [-3])

    def test_cut_short(self):
        for text in (IMAGE, CITIES, b'{"a":[1,"2",{"b":false}],"c":null}', b"[true]", b'"\\ud83d\\ude00"', b"null"):
            for length in range(len(text)):
                self.assertEqual(tk_json(list(text[:length])), [-3], text[:length])

    def test_two_values(self):
        kinds = [b"null", b"true", b"0", b'""', b"[]", b"{}"]
        for first, second in itertools.product(kinds, kinds):
            for between in (b"", b" ", b",", b":", b"\n"):
                self.assertEqual(tk_json(list(first + between + second)), [-3])

    def test_words_with_one_byte_changed(self):
        for word in (b"null", b"true", b"false"):
            for place in range(len(word)):
                for byte in range(256):
                    text = list(word)
                    text[place] = byte
                    self.assertEqual(tk_json(text), [1] if bytes(text) == word else [-3], bytes(text))

    def test_every_byte_alone(self):
        for byte in range(256):
            self.assertEqual(tk_json([byte]), [1] if byte in b"0123456789" else [-3])

    def test_all_short_texts(self):
        for length in range(1, 6):
            for signs in itertools.product(b'[]{},:"1', repeat=length):
                self.assertEqual(tk_json(list(signs)), expected(signs), bytes(signs))

    def test_all_short_rows_of_parts(self):
        parts = (b"{", b"}", b'"a":', b'"b":', b",", b"0", b"[", b"]")
        for length in range(5, 7):
            for row in itertools.product(parts, repeat=length - 1):
                text = b"{" + b"".join(row)
                self.assertEqual(tk_json(list(text)), expected(text), text)


class Deep(unittest.TestCase):
    def test_sixteen(self):
        self.assertEqual(tk_json(list(arrays(16))), [16])
        self.assertEqual(tk_json(list(arrays(16, b"0"))), [17])
        self.assertEqual(tk_json(list(objects(16))), [17])
        self.assertEqual(tk_json(list(objects(15, b"{}"))), [16])
        self.assertEqual(tk_json(list(mixed(16))), [17])
        self.assertEqual(tk_json(list(mixed(15, b"[]"))), [16])
        self.assertEqual(tk_json(list(mixed(15, b"{}"))), [16])

    def test_seventeen(self):
        for text in (arrays(17), arrays(17, b"0"), objects(17), objects(16, b"{}"), objects(16, b"[]"),
                     arrays(16, b"{}"), arrays(16, b"[]"), mixed(17), mixed(16, b"[]"), mixed(16, b"{}")):
            with self.subTest(text=text):
                self.assertEqual(tk_json(list(text)), [-3])

    def test_each_depth(self):
        for depth in range(1, 40):
            for text in (arrays(depth), arrays(depth, b'"a"'), objects(depth), mixed(depth)):
                self.assertEqual(tk_json(list(text)), expected(text), text)

    def test_deep_beside_deep(self):
        deep = arrays(15)
        self.assertEqual(tk_json(list(b"[" + deep + b"," + deep + b"," + deep + b"]")), [46])
        self.assertEqual(tk_json(list(b"[" + deep + b"," + arrays(16) + b"]")), [-3])
        self.assertEqual(tk_json(list(b"[" + arrays(16) + b"," + deep + b"]")), [-3])
        self.assertEqual(tk_json(list(b'{"a":' + deep + b',"b":' + objects(15) + b"}")), [32])
        self.assertEqual(tk_json(list(b'{"a":' + deep + b',"b":' + objects(16) + b"}")), [-3])
        self.assertEqual(tk_json(list(b"[" + b"[]," * 40 + b"[]]")), [42])

    def test_deeper_than_calls_go(self):
        for text in (b"[" * 100000, b'{"a":' * 20000, b'[{"a":' * 15000, arrays(50000), objects(16000), mixed(10000)):
            self.assertEqual(tk_json(list(text)), [-3])


class Long(unittest.TestCase):
    def timed(self, text, answer):
        start = time.monotonic()
        given = tk_json(list(text))
        self.assertLess(time.monotonic() - start, 5)
        self.assertEqual(given, answer)

    def test_long_array(self):
        self.timed(b"[" + b"1," * 49998 + b"1]", [50000])
        self.timed(b"[" + b"1," * 49998 + b"]", [-3])
        self.timed(b"[" + b"{}," * 33332 + b"[]]", [33334])

    def test_long_object(self):
        text = json.dumps({str(number): [number] for number in range(7000)}).encode()
        self.assertLessEqual(len(text), 200000)
        self.timed(text, [14001])
        self.timed(text[:-1] + b',"6999":0}', [-3])

    def test_long_blanks(self):
        self.timed(b" " * 50000 + b"1" + b"\n" * 49999, [1])
        self.timed(b"\t" * 100000, [-3])


class LikeAnother(unittest.TestCase):
    """Texts made and then broken by chance, always the same, against Python's own json."""

    bits = [
        b"null", b"true", b"false", b"0", b"-0", b"1.5", b"1e5", b'""', b'"a"', b'"\\u0061"', b'"\\ud83d\\ude00"',
        b'"\xc3\xa9"', b"[", b"]", b"{", b"}", b",", b":", b" ", b"\n", b"\t", b"\r", b"\\", b'"', b"\\u", b"d83d",
        b"\xf0\x9f\x98\x80", b"\xed\xa0\x80", b"\x00", b"\x1f", b"\x7f", b"e", b"E", b"+", b"-", b".", b"1",
    ]

    def value(self, chance, depth):
        kind = chance.randrange(8 if depth < 5 else 6)
        if kind == 6:
            return [self.value(chance, depth + 1) for step in range(chance.randrange(4))]
        if kind == 7:
            return {chance.choice("abc\u00e9\U0001f600\n"): self.value(chance, depth + 1)
                    for step in range(chance.randrange(4))}
        string = chance.choice(("", "x\t", "\u00e9\ud7ff"))
        return (None, True, False, chance.randrange(-50, 50), chance.random(), string)[kind]

    def broken(self, chance, text):
        for step in range(chance.randrange(3)):
            place = chance.randrange(len(text) + 1)
            behind = place + chance.randrange(3)
            bit = chance.choice(self.bits) if chance.random() < 0.7 else b""
            text = text[:place] + bit + text[behind:]
        return text

    def test_made_and_broken(self):
        chance = random.Random(8259)
        seen = {True: 0, False: 0}
        for step in range(20000):
            value = self.value(chance, 0)
            text = json.dumps(value, ensure_ascii=chance.random() < 0.5, indent=chance.choice((None, 1)))
            text = self.broken(chance, text.encode("utf-8"))
            answer = expected(text)
            seen[answer == [-3]] += 1
            self.assertEqual(tk_json(list(text)), answer, text)
        self.assertGreater(min(seen.values()), 5000)


class LeftAsItWas(unittest.TestCase):
    texts = [text for text, count in COUNTED] + WRONG + NUMBERS + [arrays(16), arrays(17), b'{"a":1,"\\u0061":2}']

    def test_what_is_handed_in(self):
        for text in self.texts:
            signs = list(text)
            tk_json(signs).append(9)
            self.assertEqual(signs, list(text))

    def test_not_changed_for_a_while_either(self):
        for text in self.texts:
            tk_json(Untouched(text))

    def test_names_of_the_arguments(self):
        self.assertEqual(tk_json(t=list(b"[1]")), [2])

    def test_second_call_answers_like_the_first(self):
        for text in self.texts:
            first = tk_json(list(text))
            kept = list(first)
            first.append(9)
            tk_json(list(b'{"a":[1,2]}'))
            tk_json(list(b'{"a":[1,2'))
            self.assertEqual(tk_json(list(text)), kept)

    def test_kinds(self):
        for text in self.texts:
            given = tk_json(list(text))
            self.assertIs(type(given), list)
            self.assertEqual([type(number) for number in given], [int])


if __name__ == "__main__":
    unittest.main()
