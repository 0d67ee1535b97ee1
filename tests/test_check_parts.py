"""Promise 4, so far as it speaks of a token's parts, its header and its signature: 1, 2 and 4."""

import hashlib
import hmac
import itertools
import unittest

from check_samples import HEADER, KEY, KEYS, checked, headed
from claim_samples import NO_JSON, NO_OBJECTS
from samples import ALPHABET, NO_SIGNS, row, signed, spread, written

TOKEN = signed(HEADER, b'{"sub":"me"}', KEY)


def parts_of(token):
    return [list(part) for part in bytes(token).split(b".")]


def joined(parts):
    return list(b".".join(bytes(part) for part in parts))


class Parts(unittest.TestCase):
    def test_how_many(self):
        header, claims, signature = parts_of(TOKEN)
        self.assertEqual(checked(joined([header, claims, signature])), [0])
        for parts in ([[]], [header], [header, claims], [claims, signature], [header, claims, signature, []],
                      [[], header, claims, signature], [header, [], claims, signature],
                      [header, claims, signature, signature], [header, claims, [], signature], [[]] * 2, [[]] * 4,
                      [header, claims, signature, header, claims, signature]):
            self.assertEqual(checked(joined(parts)), [1], parts)

    def test_five_parts(self):
        self.assertEqual(checked(joined(parts_of(TOKEN) + [[], []])), [1])

    def test_empty_parts(self):
        header, claims, signature = parts_of(TOKEN)
        self.assertEqual(checked(b".."), [2])
        self.assertEqual(checked(joined([[], claims, signature])), [2])
        self.assertEqual(checked(joined([[], [], signature])), [2])
        self.assertEqual(checked(joined([header, [], signature])), [4])
        self.assertEqual(checked(joined([header, [], []])), [4])
        self.assertEqual(checked(joined([header, claims, []])), [4])
        self.assertEqual(checked(signed(HEADER, b"", KEY)), [5])
        self.assertEqual(checked(signed(b"", b"", KEY)), [2])

    def test_no_sign_at_each_place(self):
        for place in range(len(TOKEN)):
            for byte in b"=+/ \n\x00\x80\xff.":
                if TOKEN[place] != 46:
                    self.assertEqual(checked(TOKEN[:place] + [byte] + TOKEN[place + 1:]), [1])

    def test_every_byte_that_is_no_sign_in_each_part(self):
        for byte in NO_SIGNS:
            for which, place in itertools.product(range(3), (0, 1, -1)):
                parts = parts_of(TOKEN)
                parts[which][place] = byte
                self.assertEqual(checked(joined(parts)), [1], (byte, which, place))

    def test_padding_and_blanks(self):
        for which in range(3):
            for around in (b"=", b"==", b" ", b"\n", b"\r\n"):
                parts = parts_of(TOKEN)
                parts[which] = parts[which] + list(around)
                self.assertEqual(checked(joined(parts)), [1])
                parts = parts_of(TOKEN)
                parts[which] = list(around) + parts[which]
                self.assertEqual(checked(joined(parts)), [1])

    def test_one_sign_behind_whole_fours(self):
        for which in range(3):
            parts = parts_of(TOKEN)
            parts[which] = parts[which] + [65] * ((1 - len(parts[which])) % 4)
            self.assertEqual(len(parts[which]) % 4, 1)
            self.assertEqual(checked(joined(parts)), [1])

    def test_bits_left_over(self):
        # Of one byte too many and of two; the bytes that are read stay the same.
        for claims, step in ((b"{ }x", 16), (b"{ } x", 4)):
            for which in range(3):
                parts = parts_of(TOKEN)
                parts[which] = written(claims)
                six = ALPHABET.index(parts[which][-1])
                for more in range(1, step):
                    parts[which][-1] = ALPHABET[six + more]
                    self.assertEqual(checked(joined(parts)), [1])

    def test_bits_left_over_of_the_signature(self):
        six = ALPHABET.index(TOKEN[-1])
        self.assertEqual(six % 4, 0)
        for more in (1, 2, 3):
            self.assertEqual(checked(TOKEN[:-1] + [ALPHABET[six + more]]), [1])

    def test_ahead_of_a_wrong_header(self):
        for token in (b"a.b", b"!.e30.e30", b"e30.!.e30", b"e30.e30.!", b"e30.e30.e30.e30", b"W10.A.", b"W10..A"):
            self.assertEqual(checked(token), [1], token)
        self.assertEqual(checked(b"W10.e30.e30"), [2])


class Header(unittest.TestCase):
    def test_right_ones(self):
        for header in (
                HEADER, b'{"alg":"HS256"}', b'{"typ":"JWT","alg":"HS256"}', b'{"typ":"JWT",\r\n "alg":"HS256"}',
                b' {"alg" : "HS256"}\n', b'{"\\u0061lg":"HS256"}', b'{"alg":"\\u0048S256"}',
                b'{"alg":"HS\\u0032\\u0035\\u0036","t\\u0079p":"J\\u0057T"}', b'{"alg":"HS256","kid":""}',
                b'{"alg":"HS256","other":[1,{"crit":1,"alg":2}],"x5u":null}', b'{"alg":"HS256","Crit":1,"crit ":2}',
                b'{"alg":"HS256","Typ":1,"Kid":2,"ALG":"none"}', b'{"alg":"HS256","exp":"x","iss":1,"aud":2}',
                b'{"alg":"HS256","cty":"JWT"}', b'{"alg":"HS256","a":' + b"[" * 15 + b"]" * 15 + b"}"):
            self.assertEqual(headed(header), [0], header)

    def test_no_json_and_no_objects(self):
        for header in NO_JSON + NO_OBJECTS:
            self.assertEqual(headed(header), [2], header[:60])
        for header in (b'{"alg":"HS256","alg":"HS256"}', b'{"alg":"HS256","\\u0061lg":"HS256"}', HEADER + b",",
                       b"[" + HEADER + b"]", HEADER[:-1], b'{"alg":"HS256","a":01}', b"\xef\xbb\xbf" + HEADER,
                       b'{"alg":"HS256","a":' + b"[" * 16 + b"]" * 16 + b"}"):
            self.assertEqual(headed(header), [2], header)

    def test_alg(self):
        for header in (b"{}", b'{"typ":"JWT"}', b'{"kid":""}', b'{"ALG":"HS256"}', b'{"a":{"alg":"HS256"}}'):
            self.assertEqual(headed(header), [2], header)
        for value in (b'"none"', b'"None"', b'"HS384"', b'"HS512"', b'"RS256"', b'"hs256"', b'"Hs256"', b'"HS256 "',
                      b'" HS256"', b'"HS25"', b'"HS2566"', b'""', b"null", b"true", b"256", b"{}", b"[]", b'["HS256"]',
                      b'{"alg":"HS256"}', b'"HS256\\u0000"', b'"\\\\u0048S256"'):
            self.assertEqual(headed(b'{"alg":' + value + b"}"), [2], value)
            self.assertEqual(headed(b'{"alg":' + value + b',"typ":"JWT"}'), [2], value)

    def test_typ(self):
        for value in (b'"jwt"', b'"Jwt"', b'"JW"', b'"JWTT"', b'"JWS"', b'"at+jwt"', b'"JWT "', b'""', b"null", b"true",
                      b"0", b"{}", b"[]", b'["JWT"]', b'{"typ":"JWT"}'):
            self.assertEqual(headed(b'{"alg":"HS256","typ":' + value + b"}"), [2], value)
            self.assertEqual(headed(b'{"\\u0074yp":' + value + b',"alg":"HS256"}'), [2], value)

    def test_kid(self):
        for value in (b"null", b"true", b"false", b"0", b"1", b"-1.5", b"{}", b"[]", b'[""]', b'["a"]', b'{"a":""}'):
            self.assertEqual(headed(b'{"alg":"HS256","kid":' + value + b"}"), [2], value)
            self.assertEqual(headed(b'{"k\\u0069d":' + value + b',"alg":"HS256"}'), [2], value)

    def test_crit(self):
        for value in (b"[]", b'["exp"]', b"null", b"true", b"false", b"0", b'""', b'"exp"', b"{}"):
            self.assertEqual(headed(b'{"alg":"HS256","crit":' + value + b"}"), [2], value)
            self.assertEqual(headed(b'{"cr\\u0069t":' + value + b',"alg":"HS256"}'), [2], value)

    def test_ahead_of_a_missing_key(self):
        for header in (b'{"alg":"none","kid":"x"}', b'{"alg":"HS256","kid":"x","crit":1}', b"[]", b""):
            self.assertEqual(headed(header, []), [2], header)
            self.assertEqual(headed(header, KEYS), [2], header)


class Signature(unittest.TestCase):
    def mac(self):
        """The signature's bytes, by Python's own hmac."""
        signs = bytes(TOKEN).rpartition(b".")[0]
        return list(hmac.new(KEY, signs, hashlib.sha256).digest())

    def test_of_another_key(self):
        for key in (b"some kez", b"some ke", b"some key ", b"Some key", b"?", spread(64)):
            self.assertEqual(checked(TOKEN, row(b"", key)), [4], key)
        self.assertEqual(checked(TOKEN, row(b"", b"?") + row(b"a", KEY)), [4])

    def test_cut_or_drawn_out(self):
        mac = self.mac()
        header, claims, signature = parts_of(TOKEN)
        self.assertEqual(checked(joined([header, claims, written(mac)])), [0])
        for length in range(32):
            self.assertEqual(checked(joined([header, claims, written(mac[:length])])), [4], length)
        for data in (mac + [0], [0] + mac, mac + mac, mac[1:], mac[::-1], [0] * 32, mac + [0] * 32):
            self.assertEqual(checked(joined([header, claims, written(data)])), [4])

    def test_each_bit_counts(self):
        header, claims, signature = parts_of(TOKEN)
        for place, bit in itertools.product(range(32), range(8)):
            mac = self.mac()
            mac[place] ^= 1 << bit
            self.assertEqual(checked(joined([header, claims, written(mac)])), [4])

    def test_it_is_of_the_signs_before_the_second_point(self):
        header, claims, signature = parts_of(TOKEN)
        for other in (written(b'{"sub":"you"}'), written(b'{"sub":"me" }'), written(b"{}")):
            self.assertEqual(checked(joined([header, other, signature])), [4])
        for other in (written(b'{"alg":"HS256"}'), written(b' {"alg":"HS256","typ":"JWT"}')):
            self.assertEqual(checked(joined([other, claims, signature])), [4])

    def test_ahead_of_wrong_claims(self):
        for claims in (b"", b"[]", b'{"exp":"x"}', b'{"exp":1}', b'{"nbf":5000}', b'{"aud":1}'):
            self.assertEqual(checked(signed(HEADER, claims, b"?"), iss=b"a", aud=b"b"), [4])


if __name__ == "__main__":
    unittest.main()
