"""Promise 5 and the row of -2, so far as they speak of tk_claim."""

import json
import random
import time
import unittest

import token_oracle
from claim_samples import NO_JSON, NO_OBJECTS, right_claims, wrong_claims
from samples import ALPHABET, DOE_TOKEN, NO_SIGNS, Untouched, answer, signed, spread, written
from tokenpass.tokens import tk_claim, tk_make

PLENTY = 2147483647
HEADER = b'{"alg":"HS256","typ":"JWT"}'
KEY = b"some key"

# Values of each kind, with blanks and escapes within.
VALUES = (
    b"null", b"true", b"false", b"0", b"-0", b"7", b"1516239022", b"-12.50e-03", b"1E+9", b"9" * 400, b'""', b'"a"',
    b'" a "', b'"\\u0061\\n\\/\\"\\\\"', b'"a/b"', b'"\\ud83d\\uDE00"', b'"\xf0\x9f\x98\x80"', b'"\xc3\xa9\x7f"',
    b'"}"', b'",\\":"', b"[]", b"[ ]", b"[\r\n\t ]", b"[1,2]", b"[ 1 , 2 ]", b'[[],{},"]"]', b"{}", b"{ }",
    b'{"a":1}', b'{ "a" : [ 1 , "\\u0061" ] ,\n"b":{}}', b'{"name":"inner"}', b"[" * 15 + b" " + b"]" * 15,
)

TOKEN = signed(HEADER, b'{"iss":"joe","exp":5,"name": [1] }', KEY)
PARTS = tuple(bytes(TOKEN).split(b"."))


def token_with(claims):
    return signed(HEADER, claims, KEY)


def found(claims, name=b"name", most=PLENTY):
    """tk_claim's answer for a token with these claims."""
    return tk_claim(most, token_with(claims), list(name))


class Found(unittest.TestCase):
    def test_each_kind(self):
        for value in VALUES:
            self.assertEqual(found(b'{"name":' + value + b"}"), answer(value), value)

    def test_first_middle_and_last(self):
        for value in VALUES:
            for claims in (b'{"name":%s,"b":[1],"c":"x"}', b'{"a":{},"name":%s,"c":"x"}',
                           b'{"a":{},"b":[1],"name":%s}'):
                self.assertEqual(found(claims % value), answer(value), claims % value)

    def test_each_of_several(self):
        names = [b"%d" % number for number in range(len(VALUES))]
        claims = b"{" + b" ,".join(b'"%s": %s' % pair for pair in zip(names, VALUES)) + b"\n}"
        for name, value in zip(names, VALUES):
            self.assertEqual(found(claims, name), answer(value))
        self.assertEqual(found(claims, b"-1"), [-5])
        self.assertEqual(found(claims, b"%d" % len(VALUES)), [-5])

    def test_blanks_around_are_left_out(self):
        for value in VALUES:
            for blank in (b" ", b"\t", b"\n", b"\r", b" \t\n\r" * 5):
                for claims in (b'{"name":B%sB}', b'{"name":B%sB,"b":1}', b'{"a":1,"name"B:B%sBB}', b'B{B"name"B:B%sB}B',
                               b'{"a":1B,B"name":%sB,"b":2}'):
                    claims = claims.replace(b"B", blank)
                    self.assertEqual(found(claims % value), answer(value), claims)

    def test_tokens_of_tk_make(self):
        for kid in (b"", b"k"):
            for value in VALUES:
                token = tk_make(PLENTY, list(b'{"name": %s }' % value), [1], list(kid))[1:]
                self.assertEqual(tk_claim(PLENTY, token, list(b"name")), answer(value))

    def test_known_token(self):
        for name, value in ((b"sub", b'"1234567890"'), (b"name", b'"John Doe"'), (b"iat", b"1516239022")):
            self.assertEqual(tk_claim(PLENTY, list(DOE_TOKEN), list(name)), answer(value))
        self.assertEqual(tk_claim(PLENTY, list(DOE_TOKEN), list(b"exp")), [-5])

    def test_in_time(self):
        for claims, value in (
                (b'{"a":"' + b"x" * 70000 + b'","name":1}', b"1"),
                (b'{"name":[' + b"1," * 35000 + b"1]}", b"[" + b"1," * 35000 + b"1]"),
                (b'{"name":"' + b"\\n" * 35000 + b'"}', b'"' + b"\\n" * 35000 + b'"'),
                (b"{" + b" " * 70000 + b'"name":{}}', b"{}"),
                (b"{" + b"".join(b'"%d":0,' % number for number in range(7000)) + b'"name":2}', b"2")):
            token = token_with(claims)
            self.assertTrue(80000 < len(token) <= 100000, len(token))
            start = time.monotonic()
            given = tk_claim(PLENTY, token, list(b"name"))
            self.assertLess(time.monotonic() - start, 5)
            self.assertEqual(given, answer(value))


class Names(unittest.TestCase):
    def test_in_escapes(self):
        for form, name in ((b"\\u006eame", b"name"), (b"n\\u0061m\\u0065", b"name"), (b"na\\u006De", b"name"),
                           (b"\\n", b"\n"), (b'\\"', b'"'), (b"\\\\", b"\\"), (b"a\\/b", b"a/b"), (b"a/b", b"a/b"),
                           (b"\\u0000", b"\x00"), (b"\\u00e9", b"\xc3\xa9"), (b"\xc3\xa9", b"\xc3\xa9"),
                           (b"\\u20AC", b"\xe2\x82\xac"), (b"\\ud83d\\ude00", b"\xf0\x9f\x98\x80")):
            claims = b'{"a":1,"' + form + b'": "\\u0061" }'
            self.assertEqual(found(claims, name), answer(b'"\\u0061"'), form)
            if form != name:
                self.assertEqual(found(claims, form), [-5], form)

    def test_no_bytes(self):
        self.assertEqual(found(b'{"":1}', b""), answer(b"1"))
        self.assertEqual(found(b'{"a":2,"":{"a":1}}', b""), answer(b'{"a":1}'))
        self.assertEqual(found(b'{"a":1}', b""), [-5])
        self.assertEqual(found(b'{"\\u0000":1}', b""), [-5])

    def test_every_length(self):
        for length in range(65):
            name = bytes(97 + place % 26 for place in range(length))
            claims = b'{"%s":1,"%sz":2}' % (name, name)
            self.assertEqual(found(claims, name), answer(b"1"))
            if length > 0:
                self.assertEqual(found(claims, name[:-1]), [-5])
                self.assertEqual(found(claims, name[1:]), [-5])
                self.assertEqual(found(claims, name[:-1] + b"0"), [-5])

    def test_no_utf8(self):
        claims = b'{"\\u00e9":1,"e":2,"\\ufffd":3,"\xf0\x9f\x98\x80":4,"\\u0080":5,"":6}'
        for name in (b"\xe9", b"\x80", b"\xff", b"\xc3", b"\xa9", b"\xed\xa0\xbd", b"\xed\xa0\xbd\xed\xb8\x80",
                     b"\xc1\xa5", b"\xc3\xa9\xff", b"\xf0\x9f\x98"):
            self.assertEqual(found(claims, name), [-5], name)
        self.assertEqual(found(claims, b"\xc3\xa9"), answer(b"1"))

    def test_near_names(self):
        for name in (b"nam", b"ame", b"Name", b"NAME", b"name ", b" name", b"name\x00", b'"name"', b"\\u006eame",
                     b"eman"):
            self.assertEqual(found(b'{"name":1}', name), [-5], name)

    def test_what_stands_deeper_is_not_meant(self):
        for claims in (b'{"a":{"name":1}}', b'{"a":[{"name":1}]}', b'{"a":"name"}', b'{"a":["name"]}',
                       b'{"a":{"b":"name"}}'):
            self.assertEqual(found(claims), [-5], claims)
        self.assertEqual(found(b'{"a":{"name":1},"name":2,"b":{"name":3}}'), answer(b"2"))

    def test_empty_object(self):
        for claims in (b"{}", b" { } ", b"{\n}"):
            for name in (b"", b"name", b"{}"):
                self.assertEqual(found(claims, name), [-5])


class Form(unittest.TestCase):
    def test_no_json_and_no_objects(self):
        for claims in NO_JSON + NO_OBJECTS:
            for name in (b"a", b"exp", b""):
                self.assertEqual(found(claims, name), [-3], claims[:60])
        for claims in (b'{"name":1,"name":1}', b'{"name":1,"n\\u0061me":2}', b'{"name":1,}', b'{"name":1}}',
                       b'["name"]', b'"name"', b'{"name":1', b'{"name":01}', b'{"name":1,"a":"\xff"}'):
            self.assertEqual(found(claims), [-3], claims)

    def test_how_many_parts(self):
        header, claims, signature = PARTS
        self.assertEqual(tk_claim(PLENTY, list(b".".join(PARTS)), list(b"name")), answer(b"[1]"))
        for parts in ([b""], [claims], [header, claims], [claims, signature], [header, claims, signature, b""],
                      [b"", header, claims, signature], [header, claims, signature, signature], [b""] * 4, [b""] * 2,
                      [header, claims, b"", b"", signature]):
            self.assertEqual(tk_claim(PLENTY, list(b".".join(parts)), list(b"name")), [-3], parts)

    def test_empty_parts(self):
        header, claims, signature = PARTS
        for parts in ([b"", claims, signature], [header, claims, b""], [b"", claims, b""]):
            self.assertEqual(tk_claim(PLENTY, list(b".".join(parts)), list(b"name")), answer(b"[1]"), parts)
        for parts in ([header, b"", signature], [b"", b"", b""]):
            self.assertEqual(tk_claim(PLENTY, list(b".".join(parts)), list(b"name")), [-3], parts)

    def test_no_sign_in_each_part(self):
        for which in range(3):
            for place in (0, 1, -1):
                for byte in NO_SIGNS:
                    parts = [list(part) for part in PARTS]
                    parts[which][place] = byte
                    token = list(b".".join(bytes(part) for part in parts))
                    self.assertEqual(tk_claim(PLENTY, token, list(b"name")), [-3], (which, place, byte))

    def test_wrong_length_and_bits_left_over_in_each_part(self):
        for which in range(3):
            for wrong in (b"A", b"AAAAA", b"AB", b"AAB", b"AAAA=", b"AA==", b" ", b"AAAA\n"):
                parts = list(PARTS)
                parts[which] = wrong
                self.assertEqual(tk_claim(PLENTY, list(b".".join(parts)), list(b"name")), [-3], (which, wrong))
        six = ALPHABET.index(TOKEN[-1])
        self.assertEqual(tk_claim(PLENTY, TOKEN[:-1] + [ALPHABET[six + 1]], list(b"name")), [-3])

    def test_nothing_else_is_looked_at_in_the_header(self):
        header, claims, signature = PARTS
        for other in (b"", b"[]", b"{}", b"null", b"{", b"\xff\x00", b'{"alg":"none"}', b'{"alg":"HS256","crit":[]}',
                      b'{"alg":"RS256","typ":"x","kid":1}', b'{"a":1,"a":1}', b"[" * 60):
            token = list(b".".join((bytes(written(other)), claims, signature)))
            self.assertEqual(tk_claim(PLENTY, token, list(b"name")), answer(b"[1]"), other)

    def test_nothing_else_is_looked_at_in_the_signature(self):
        header, claims, signature = PARTS
        for other in ([], [0], [0] * 31, [0] * 32, [255] * 32, [0] * 33, spread(500)):
            token = list(b".".join((header, claims, bytes(written(other)))))
            self.assertEqual(tk_claim(PLENTY, token, list(b"name")), answer(b"[1]"))

    def test_nothing_else_is_looked_at_in_the_claims(self):
        for claims in (b'{"exp":"x","name":1}', b'{"name":1,"exp":-1.5,"nbf":null}', b'{"iss":1,"name":1,"aud":{}}',
                       b'{"exp":0,"nbf":9007199254740991,"name":1}'):
            self.assertEqual(found(claims), answer(b"1"))
        self.assertEqual(found(b'{"exp":"x"}', b"exp"), answer(b'"x"'))
        self.assertEqual(found(b'{"exp": -1.5e3}', b"exp"), answer(b"-1.5e3"))
        self.assertEqual(found(b'{"aud":[1,null]}', b"aud"), answer(b"[1,null]"))


class Most(unittest.TestCase):
    def test_just_the_length_and_one_less(self):
        for value in VALUES:
            claims = b'{"a":1, "name" : ' + value + b' ,"b":[]}'
            self.assertEqual(found(claims, most=len(value)), answer(value))
            self.assertEqual(found(claims, most=len(value) + 1), answer(value))
            self.assertEqual(found(claims, most=len(value) - 1), [-7])
            self.assertEqual(found(claims, most=0), [-7])

    def test_below_zero(self):
        for most in (-1, -2, -3, -5, -7, -2147483648):
            for token in (TOKEN, [], list(b"a.b"), token_with(b"[]"), token_with(b"{}"), token_with(b'{"name":1}')):
                for name in (b"name", b"", b"\xff"):
                    self.assertEqual(tk_claim(most, token, list(name)), [-2])

    def test_order(self):
        for most in (0, 1, PLENTY):
            for name in (b"name", b"none"):
                for token in (b"", b"..", b"a.b", b"!.e30.", b"e30.e30.!", b"!.eyJuYW1lIjoxMjN9.", b"e30.e30.e30.e30"):
                    self.assertEqual(tk_claim(most, list(token), list(name)), [-3], token)
                self.assertEqual(found(b"[]", name, most), [-3])
                self.assertEqual(found(b'{"name":123,"name":1}', name, most), [-3])
            self.assertEqual(found(b'{"name":123}', b"none", most), [-5])
            self.assertEqual(found(b"{}", b"none", most), [-5])
        self.assertEqual(found(b'{"name":123}', b"name", 2), [-7])


class LikeAnother(unittest.TestCase):
    """Tokens made and then broken by chance, always the same, against Python's own json and base64."""

    def value(self, chance, depth):
        kind = chance.randrange(7 if depth < 4 else 5)
        if kind == 5:
            return [self.value(chance, depth + 1) for step in range(chance.randrange(4))]
        if kind == 6:
            return {chance.choice(("", "a", "b", "\u00e9", "\n")): self.value(chance, depth + 1)
                    for step in range(chance.randrange(5))}
        return (None, True, chance.randrange(-50, 5000), chance.random(), chance.choice(("", "a", "\u00e9\t")))[kind]

    def test_made_and_broken(self):
        chance = random.Random(7515)
        seen = {}
        for step in range(10000):
            value = {name: self.value(chance, 1) for name in chance.sample(("", "a", "b", "\u00e9", "\n", "c"), 4)}
            claims = json.dumps(value, ensure_ascii=chance.random() < 0.5, indent=chance.choice((None, 1))).encode()
            if chance.random() < 0.2:
                place = chance.randrange(len(claims))
                claims = claims[:place] + chance.choice((b"", b" ", b"0", b'"', b"}")) + claims[place + 1:]
            token = token_with(claims)
            if chance.random() < 0.1:
                place = chance.randrange(len(token))
                token = token[:place] + chance.choice(([], [46], [65], [61])) + token[place + 1:]
            name = chance.choice(("", "a", "\u00e9", "\n")).encode()
            args = (chance.choice((0, 1, 4, 4, 10, 100, PLENTY)), token, list(name))
            wanted = token_oracle.claim(*args)
            seen[min(wanted[0], 0)] = seen.get(min(wanted[0], 0), 0) + 1
            self.assertEqual(tk_claim(*args), wanted, (args[0], claims, args[2]))
        self.assertEqual(sorted(seen), [-7, -5, -3, 0])
        self.assertGreater(min(seen.values()), 1000, seen)

    def test_samples_of_claims(self):
        for claims in list(right_claims()) + list(wrong_claims()):
            for name in (b"a", b"exp", b"aud", b"sub"):
                args = (PLENTY, token_with(claims), list(name))
                self.assertEqual(tk_claim(*args), token_oracle.claim(*args), claims[:60])


class LeftAsItWas(unittest.TestCase):
    calls = [
        (most, token, name)
        for most in (-1, 0, 2, PLENTY)
        for token in (TOKEN, token_with(b"{}"), token_with(b"[]"), token_with(b'{"name":{"a":[1]}}'), list(b"a.b"), [])
        for name in (list(b"name"), [], [255], [120] * 64)
    ]

    def test_what_is_handed_in(self):
        for most, token, name in self.calls:
            lists = (list(token), list(name))
            tk_claim(most, *lists).append(9)
            self.assertEqual(lists, (token, name))

    def test_not_changed_for_a_while_either(self):
        for most, token, name in self.calls:
            tk_claim(most, Untouched(token), Untouched(name))

    def test_names_of_the_arguments(self):
        self.assertEqual(tk_claim(most=3, token=list(TOKEN), name=list(b"name")), answer(b"[1]"))

    def test_second_call_answers_like_the_first(self):
        for call in self.calls:
            first = tk_claim(*call)
            kept = list(first)
            first.append(9)
            tk_claim(PLENTY, token_with(b'{"name":"other","x":1}'), list(b"name"))
            self.assertEqual(tk_claim(*call), kept)

    def test_kinds(self):
        for call in self.calls:
            given = tk_claim(*call)
            self.assertIs(type(given), list)
            self.assertEqual({type(number) for number in given}, {int})


if __name__ == "__main__":
    unittest.main()
