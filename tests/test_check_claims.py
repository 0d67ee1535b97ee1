"""Promise 4, so far as it speaks of a token's claims: 5 to 9."""

import unittest

from check_samples import claimed
from claim_samples import RIGHT_AUDIENCES, RIGHT_STRINGS, right_claims, wrong_claims

LAST_NOW = 2**64 - 1
LAST_SLACK = 2**32 - 1
LAST_TIME = 2**53 - 1


class Right(unittest.TestCase):
    def test_right_claims(self):
        for claims in right_claims():
            # A time may still be to come or past; the greatest slack puts off the most of both.
            self.assertIn(claimed(claims, now=0, slack=LAST_SLACK), ([0], [6]), claims)
            self.assertIn(claimed(claims, now=LAST_NOW, slack=LAST_SLACK), ([0], [7]), claims)

    def test_wrong_claims(self):
        for claims in wrong_claims():
            self.assertEqual(claimed(claims), [5], claims[:60])

    def test_ahead_of_what_else_is_due(self):
        for claims in (b'{"iat":-1,"nbf":5000}', b'{"nbf":5000,"exp":"1"}', b'{"sub":1,"exp":1}', b'{"jti":1}',
                       b'{"aud":[1],"iss":"b"}', b'{"nbf":5000,"exp":1,"iss":"b","aud":1}', b"[]", b""):
            self.assertEqual(claimed(claims, iss=b"a", aud=b"a"), [5], claims)


class Times(unittest.TestCase):
    def nbf(self, nbf, now, slack):
        return claimed(b'{"nbf":%d}' % nbf, now=now, slack=slack)

    def exp(self, exp, now, slack):
        return claimed(b'{"exp":%d}' % exp, now=now, slack=slack)

    def test_nbf_at_the_edge(self):
        for now, slack in ((0, 0), (0, 1), (1, 0), (1000, 0), (1000, 10), (0, LAST_SLACK), (1516239022, LAST_SLACK),
                           (LAST_TIME - 1, 0), (LAST_TIME - 60, 59), (LAST_TIME - 1 - LAST_SLACK, LAST_SLACK)):
            edge = now + slack
            self.assertEqual(self.nbf(max(edge - 1, 0), now, slack), [0])
            self.assertEqual(self.nbf(edge, now, slack), [0])
            self.assertEqual(self.nbf(edge + 1, now, slack), [6])

    def test_exp_at_the_edge(self):
        for exp, slack in ((1, 0), (1, 1), (1000, 0), (1000, 10), (0, 10), (0, LAST_SLACK), (1516239022, LAST_SLACK),
                           (LAST_TIME, 0), (LAST_TIME, 1), (LAST_TIME, LAST_SLACK)):
            edge = exp + slack
            self.assertEqual(self.exp(exp, edge - 1, slack), [0])
            self.assertEqual(self.exp(exp, edge, slack), [7])
            self.assertEqual(self.exp(exp, edge + 1, slack), [7])

    def test_exp_of_nought(self):
        self.assertEqual(self.exp(0, 0, 0), [7])
        self.assertEqual(self.exp(0, 0, 1), [0])

    def test_the_greatest_values(self):
        self.assertEqual(self.nbf(LAST_TIME, LAST_NOW, LAST_SLACK), [0])
        self.assertEqual(self.nbf(LAST_TIME, LAST_NOW, 0), [0])
        self.assertEqual(self.nbf(1, LAST_NOW, 1), [0])
        self.assertEqual(self.nbf(LAST_TIME, 0, LAST_SLACK), [6])
        self.assertEqual(self.nbf(LAST_TIME, LAST_TIME, 0), [0])
        self.assertEqual(self.exp(LAST_TIME, LAST_NOW, LAST_SLACK), [7])
        self.assertEqual(self.exp(LAST_TIME, LAST_NOW, 0), [7])
        self.assertEqual(self.exp(0, LAST_NOW, LAST_SLACK), [7])
        self.assertEqual(self.exp(LAST_TIME, 0, LAST_SLACK), [0])
        self.assertEqual(claimed(b"{}", now=LAST_NOW, slack=LAST_SLACK), [0])
        self.assertEqual(claimed(b"{}", now=0, slack=0), [0])

    def test_each_bit_of_a_time(self):
        for bit in range(53):
            self.assertEqual(self.nbf(1 << bit, (1 << bit) - 1, 0), [6])
            self.assertEqual(self.nbf(1 << bit, 1 << bit, 0), [0])
            self.assertEqual(self.exp(1 << bit, (1 << bit) - 1, 0), [0])
            self.assertEqual(self.exp(1 << bit, 1 << bit, 0), [7])

    def test_each_digit_of_a_time(self):
        for digits in (b"1234567890", b"9876543210", b"8000000000000001", b"1020304050607080"):
            time = int(digits)
            self.assertEqual(claimed(b'{"exp":' + digits + b"}", now=time - 1, slack=0), [0])
            self.assertEqual(claimed(b'{"exp":' + digits + b"}", now=time, slack=0), [7])

    def test_both(self):
        self.assertEqual(claimed(b'{"nbf":5,"exp":7}', now=4, slack=0), [6])
        self.assertEqual(claimed(b'{"nbf":5,"exp":7}', now=5, slack=0), [0])
        self.assertEqual(claimed(b'{"nbf":5,"exp":7}', now=6, slack=0), [0])
        self.assertEqual(claimed(b'{"nbf":5,"exp":7}', now=7, slack=0), [7])
        self.assertEqual(claimed(b'{"nbf":9,"exp":3}', now=6, slack=0), [6])

    def test_iat_is_not_held_against_now(self):
        for iat in (0, 999, 1000, 5000, LAST_TIME):
            self.assertEqual(claimed(b'{"iat":%d}' % iat, now=1000, slack=0), [0])

    def test_names_in_escapes(self):
        self.assertEqual(claimed(b'{"n\\u0062f":5000}'), [6])
        self.assertEqual(claimed(b'{"e\\u0078p":5}'), [7])
        self.assertEqual(claimed(b'{"a":{"nbf":5000,"exp":5}}'), [0])
        self.assertEqual(claimed(b'{"Nbf":5000,"EXP":5}'), [0])


class Issuer(unittest.TestCase):
    def test_not_wanted(self):
        for iss in RIGHT_STRINGS:
            self.assertEqual(claimed(b'{"iss":' + iss + b"}"), [0])

    def test_there(self):
        self.assertEqual(claimed(b'{"iss":"joe"}', iss=b"joe"), [0])
        self.assertEqual(claimed(b'{"a":1, "iss" : "joe" ,"sub":"x"}', iss=b"joe"), [0])
        self.assertEqual(claimed(b'{"i\\u0073s":"joe"}', iss=b"joe"), [0])
        for wanted in (b"jo", b"joee", b"Joe", b"oe", b"eoj", b"", b" joe", b"joe ", b"joe\x00", b'"joe"', b"\xff\xfe"):
            self.assertEqual(claimed(b'{"iss":"joe"}', iss=wanted), [8], wanted)

    def test_not_there(self):
        for claims in (b"{}", b'{"sub":"joe"}', b'{"aud":"joe"}', b'{"ISS":"joe"}', b'{"a":{"iss":"joe"}}'):
            for wanted in (b"joe", b"", b"null"):
                self.assertEqual(claimed(claims, iss=wanted), [8])

    def test_no_bytes(self):
        self.assertEqual(claimed(b'{"iss":""}', iss=b""), [0])
        self.assertEqual(claimed(b'{"iss":""}', iss=b"a"), [8])
        self.assertEqual(claimed(b'{"iss":"\\u0000"}', iss=b""), [8])

    def test_in_escapes(self):
        for said, wanted in ((b"\\u006aoe", b"joe"), (b"j\\u006Fe", b"joe"), (b"\\n", b"\n"), (b"a\\/b", b"a/b"),
                             (b'\\"', b'"'), (b"\\u0000", b"\x00"), (b"\\u00e9", b"\xc3\xa9"),
                             (b"\xc3\xa9", b"\xc3\xa9"), (b"\\ud83d\\ude00", b"\xf0\x9f\x98\x80"),
                             (b"https:\\/\\/a.example", b"https://a.example")):
            self.assertEqual(claimed(b'{"iss":"' + said + b'"}', iss=wanted), [0], said)
            if said != wanted:
                self.assertEqual(claimed(b'{"iss":"' + said + b'"}', iss=said), [8], said)

    def test_longest(self):
        self.assertEqual(claimed(b'{"iss":"' + b"x" * 1024 + b'"}', iss=b"x" * 1024), [0])
        self.assertEqual(claimed(b'{"iss":"' + b"x" * 1025 + b'"}', iss=b"x" * 1024), [8])
        self.assertEqual(claimed(b'{"iss":"' + b"x" * 1023 + b'y"}', iss=b"x" * 1024), [8])

    def test_after_the_times(self):
        self.assertEqual(claimed(b'{"nbf":5000}', iss=b"joe"), [6])
        self.assertEqual(claimed(b'{"exp":5}', iss=b"joe"), [7])


class Audience(unittest.TestCase):
    def test_not_wanted(self):
        for aud in RIGHT_AUDIENCES:
            self.assertEqual(claimed(b'{"aud":' + aud + b"}"), [0])

    def test_a_string(self):
        self.assertEqual(claimed(b'{"aud":"us"}', aud=b"us"), [0])
        self.assertEqual(claimed(b'{"a\\u0075d":"us"}', aud=b"us"), [0])
        for wanted in (b"u", b"s", b"uss", b"US", b"", b" us", b"us\x00", b'"us"', b"\xff"):
            self.assertEqual(claimed(b'{"aud":"us"}', aud=wanted), [9], wanted)

    def test_an_array(self):
        for said in (b'["us"]', b'["us","a"]', b'["a","us"]', b'["a","us","b"]', b'[ "a" , "us" ]', b'["us","us"]',
                     b'["","us"]', b'["a","\\u0075s"]', b"[" + b'"a",' * 200 + b'"us"]'):
            self.assertEqual(claimed(b'{"aud":' + said + b"}", aud=b"us"), [0], said)
        for said in (b"[]", b"[ ]", b'["a"]', b'["u","s"]', b'["u","s","u s"]', b'["us "," us","US","uss",""]',
                     b'["\\\\u0075s"]'):
            self.assertEqual(claimed(b'{"aud":' + said + b"}", aud=b"us"), [9], said)

    def test_not_there(self):
        for claims in (b"{}", b'{"sub":"us"}', b'{"iss":"us"}', b'{"AUD":"us"}', b'{"a":{"aud":"us"}}'):
            for wanted in (b"us", b"", b"null"):
                self.assertEqual(claimed(claims, aud=wanted), [9])

    def test_no_bytes(self):
        for said, answer in ((b'""', 0), (b'[""]', 0), (b'["a",""]', 0), (b"[]", 9), (b'["a"]', 9), (b'"a"', 9),
                             (b'"\\u0000"', 9)):
            self.assertEqual(claimed(b'{"aud":' + said + b"}", aud=b""), [answer], said)

    def test_in_escapes(self):
        for said, wanted in ((b"\\u0075s", b"us"), (b"\\n", b"\n"), (b"a\\/b", b"a/b"), (b"\\u00e9", b"\xc3\xa9"),
                             (b"\\ud83d\\ude00", b"\xf0\x9f\x98\x80")):
            for form in (b'"%s"', b'["%s"]', b'["a","%s"]'):
                self.assertEqual(claimed(b'{"aud":' + form % said + b"}", aud=wanted), [0], said)
                self.assertEqual(claimed(b'{"aud":' + form % said + b"}", aud=said), [9], said)

    def test_longest(self):
        for form in (b'"%s"', b'["%s"]'):
            self.assertEqual(claimed(b'{"aud":' + form % (b"x" * 1024) + b"}", aud=b"x" * 1024), [0])
            self.assertEqual(claimed(b'{"aud":' + form % (b"x" * 1025) + b"}", aud=b"x" * 1024), [9])

    def test_with_an_issuer(self):
        claims = b'{"iss":"joe","aud":["us","joe"]}'
        self.assertEqual(claimed(claims, iss=b"joe", aud=b"us"), [0])
        self.assertEqual(claimed(claims, iss=b"joe", aud=b"joe"), [0])
        self.assertEqual(claimed(claims, iss=b"us", aud=b"us"), [8])
        self.assertEqual(claimed(claims, iss=b"us", aud=b"x"), [8])
        self.assertEqual(claimed(claims, iss=b"joe", aud=b"x"), [9])
        self.assertEqual(claimed(claims, aud=b"x"), [9])

    def test_after_the_times(self):
        self.assertEqual(claimed(b'{"nbf":5000}', aud=b"us"), [6])
        self.assertEqual(claimed(b'{"exp":5}', aud=b"us"), [7])


if __name__ == "__main__":
    unittest.main()
