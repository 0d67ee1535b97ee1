"""Promise 3 and the row of -2, so far as they speak of tk_make."""

import time
import unittest

from claim_samples import right_claims, wrong_claims
from samples import DOE_CLAIMS, DOE_TOKEN, Untouched, answer, signed, spread
from tokenpass.tokens import tk_make

PLENTY = 2147483647
PLAIN_HEADER = b'{"alg":"HS256","typ":"JWT"}'

# Claims, key, kid and token. The first two are widely known; the last two were made with openssl's dgst and base64.
KNOWN = [
    (DOE_CLAIMS, b"your-256-bit-secret", b"", DOE_TOKEN),
    (
        b'{"sub":"1234567890","name":"John Doe","admin":true}', b"secret", b"",
        b"eyJhbGciOiJIUzI1NiIsInR5cCI6IkpXVCJ9"
        b".eyJzdWIiOiIxMjM0NTY3ODkwIiwibmFtZSI6IkpvaG4gRG9lIiwiYWRtaW4iOnRydWV9"
        b".TJVA95OrM7E2cBab30RMHrHDcEfxjoYZgeFONFh7HgQ",
    ),
    (
        b'{"iss":"joe","exp":1300819380}', b"secret", b"key-1",
        b"eyJhbGciOiJIUzI1NiIsImtpZCI6ImtleS0xIiwidHlwIjoiSldUIn0"
        b".eyJpc3MiOiJqb2UiLCJleHAiOjEzMDA4MTkzODB9"
        b".QVRebRHkcL1Htf2hJBe0RVKC0ai53S3stqkXlEk2nQ8",
    ),
    (
        b'{ "aud": ["a", "b"] }', b"secret", b" 2026/11 {a} ~",
        b"eyJhbGciOiJIUzI1NiIsImtpZCI6IiAyMDI2LzExIHthfSB-IiwidHlwIjoiSldUIn0"
        b".eyAiYXVkIjogWyJhIiwgImIiXSB9"
        b".G4fYZtFuveSfUDUAsY4Nz5zmTTsBCNCg2boYlz6JtqQ",
    ),
]

SHORT = b'{"exp":9}'


def header_with(kid):
    return b'{"alg":"HS256","kid":"' + bytes(kid) + b'","typ":"JWT"}'


class Made(unittest.TestCase):
    def test_known_tokens(self):
        for claims, key, kid, token in KNOWN:
            with self.subTest(token=token):
                self.assertEqual(tk_make(PLENTY, list(claims), list(key), list(kid)), answer(token))

    def test_right_claims_kept_byte_for_byte(self):
        for claims in right_claims():
            for kid, header in (([], PLAIN_HEADER), ([107], header_with(b"k"))):
                given = tk_make(PLENTY, list(claims), [1, 2], kid)
                self.assertEqual(given, answer(signed(header, claims, [1, 2])), claims)

    def test_blanks_within_and_around(self):
        for claims in (b" {}", b"{} ", b"{ }", b'\r\n\t {"a" :\n[ 1 , 2 ] , "exp" : 3 }\t\n', b" " * 500 + b"{}\n"):
            given = tk_make(PLENTY, list(claims), [1, 2], [])
            self.assertEqual(given, answer(signed(PLAIN_HEADER, claims, [1, 2])), claims)

    def test_every_length_of_key(self):
        for length in range(1, 65):
            given = tk_make(PLENTY, list(SHORT), spread(length), [])
            self.assertEqual(given, answer(signed(PLAIN_HEADER, SHORT, spread(length))), length)

    def test_keys_of_any_bytes(self):
        for byte in range(256):
            given = tk_make(PLENTY, list(SHORT), [byte], [])
            self.assertEqual(given, answer(signed(PLAIN_HEADER, SHORT, [byte])), byte)

    def test_longest_claims_in_time(self):
        for claims in (b'{"a":"' + b"x" * 99992 + b'"}', b'{"a":[' + b"1," * 49995 + b"1]} ", b"{}" + b" " * 99998):
            self.assertEqual(len(claims), 100000)
            start = time.monotonic()
            given = tk_make(PLENTY, list(claims), spread(64), [120] * 64)
            self.assertLess(time.monotonic() - start, 10)
            self.assertEqual(given, answer(signed(header_with(b"x" * 64), claims, spread(64))))


class Kid(unittest.TestCase):
    def test_every_byte_at_each_place(self):
        for byte in range(256):
            fits = 32 <= byte <= 126 and byte not in b'"\\'
            for kid in ([byte], [byte, 97], [97, byte], [97, byte, 98]):
                wanted = answer(signed(header_with(kid), SHORT, [1])) if fits else [-3]
                self.assertEqual(tk_make(PLENTY, list(SHORT), [1], kid), wanted, kid)

    def test_every_length(self):
        for length in range(1, 65):
            kid = [33 + 7 * place % 58 for place in range(length)]
            kid = [byte + 2 if byte in b'"\\' else byte for byte in kid]
            wanted = answer(signed(header_with(kid), SHORT, [1]))
            self.assertEqual(tk_make(PLENTY, list(SHORT), [1], kid), wanted)
            for byte in (31, 34, 92, 127, 255):
                self.assertEqual(tk_make(PLENTY, list(SHORT), [1], kid[:-1] + [byte]), [-3])
                self.assertEqual(tk_make(PLENTY, list(SHORT), [1], [byte] + kid[1:]), [-3])

    def test_what_would_be_an_escape(self):
        for kid in (b"\\n", b"\\u0061", b'\\"', b"\\\\", b'","crit":"'):
            self.assertEqual(tk_make(PLENTY, list(SHORT), [1], list(kid)), [-3])

    def test_with_wrong_claims(self):
        for kid in ([], [97], [31], [34]):
            self.assertEqual(tk_make(PLENTY, list(b"[]"), [1], kid), [-3])


class Refused(unittest.TestCase):
    def test_wrong_claims(self):
        for claims in wrong_claims():
            self.assertEqual(tk_make(PLENTY, list(claims), [1, 2], []), [-3], claims[:60])

    def test_key_of_no_bytes(self):
        for most in (-1, 0, 5, PLENTY):
            for claims in (SHORT, b"[]", b"", b'{"exp":-1}'):
                for kid in ([], [97], [34]):
                    self.assertEqual(tk_make(most, list(claims), [], kid), [-2])

    def test_key_of_too_many_bytes(self):
        for length in (65, 66, 128):
            self.assertEqual(tk_make(PLENTY, list(SHORT), [1] * length, []), [-2])

    def test_most_just_the_length_and_one_less(self):
        for claims, key, kid, token in KNOWN:
            args = (list(claims), list(key), list(kid))
            self.assertEqual(tk_make(len(token), *args), answer(token))
            self.assertEqual(tk_make(len(token) + 1, *args), answer(token))
            for most in (len(token) - 1, len(token) - 2, 1, 0):
                self.assertEqual(tk_make(most, *args), [-7])

    def test_most_below_zero(self):
        for most in (-1, -2, -3, -7, -2147483648):
            for claims in (SHORT, b"[]", b"", b'{"exp":-1}'):
                for kid in ([], [97], [34]):
                    self.assertEqual(tk_make(most, list(claims), [1], kid), [-2])

    def test_wrong_claims_or_kid_ahead_of_a_small_most(self):
        for most in (0, 1, 20):
            for claims, kid in ((b"[]", []), (b"", [97]), (b'{"exp":-1}', []), (SHORT, [34]), (SHORT, [31])):
                self.assertEqual(tk_make(most, list(claims), [1], kid), [-3])
            self.assertEqual(tk_make(most, list(SHORT), [1], [97]), [-7])


class LeftAsItWas(unittest.TestCase):
    calls = [
        (most, claims, key, kid)
        for most in (-1, 0, PLENTY)
        for claims in (SHORT, b'{"aud":["a","\\u0062"], "x":{}}', b"[]", b"{", b'{"exp":1.5}')
        for key in (b"", b"k", bytes(spread(64)))
        for kid in (b"", b"name", b'"', b"x" * 64)
    ]

    def test_what_is_handed_in(self):
        for most, claims, key, kid in self.calls:
            lists = (list(claims), list(key), list(kid))
            tk_make(most, *lists).append(9)
            self.assertEqual(lists, (list(claims), list(key), list(kid)))

    def test_not_changed_for_a_while_either(self):
        for most, claims, key, kid in self.calls:
            tk_make(most, Untouched(claims), Untouched(key), Untouched(kid))

    def test_one_list_as_key_and_kid(self):
        both = list(b"both")
        self.assertEqual(tk_make(PLENTY, list(SHORT), both, both), answer(signed(header_with(b"both"), SHORT, b"both")))

    def test_names_of_the_arguments(self):
        given = tk_make(most=PLENTY, claims=list(SHORT), key=[1], kid=[97])
        self.assertEqual(given, answer(signed(header_with(b"a"), SHORT, [1])))

    def test_second_call_answers_like_the_first(self):
        for most, claims, key, kid in self.calls:
            first = tk_make(most, list(claims), list(key), list(kid))
            kept = list(first)
            first.append(9)
            tk_make(PLENTY, list(b'{"exp":5,"iss":"z"}'), [9, 9], [122])
            self.assertEqual(tk_make(most, list(claims), list(key), list(kid)), kept)

    def test_kinds(self):
        for most, claims, key, kid in self.calls:
            given = tk_make(most, list(claims), list(key), list(kid))
            self.assertIs(type(given), list)
            self.assertEqual({type(number) for number in given}, {int})


if __name__ == "__main__":
    unittest.main()
