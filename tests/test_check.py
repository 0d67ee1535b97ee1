"""Promise 4 and the row of -2: the order of tk_check's answers, and what holds for its calls over all."""

import itertools
import json
import random
import time
import unittest

import token_oracle
from check_samples import FAULTS, HEADER, KEY, KEYS, checked, claimed, faulty
from claim_samples import right_claims, wrong_claims
from samples import RFC_KEY, RFC_TOKEN, Untouched, row, signed, spread, written
from tokenpass.tokens import tk_check, tk_make


class Answers(unittest.TestCase):
    def test_nothing_wrong(self):
        self.assertEqual(tk_check(*faulty(())), [0])
        self.assertEqual(claimed(b"{}"), [0])

    def test_each_alone(self):
        for fault in FAULTS:
            self.assertEqual(tk_check(*faulty((fault,))), [fault])

    def test_each_with_each(self):
        for first, second in itertools.combinations(FAULTS, 2):
            self.assertEqual(tk_check(*faulty((first, second))), [first], (first, second))

    def test_any_of_them_at_once(self):
        for many in range(1, len(FAULTS) + 1):
            for faults in itertools.combinations(FAULTS, many):
                self.assertEqual(tk_check(*faulty(faults)), [faults[0]], faults)

    def test_token_of_the_standard(self):
        keys = row(b"", RFC_KEY)
        for now, answer in ((0, 0), (1300819379, 0), (1300819380, 7), (1300819381, 7)):
            self.assertEqual(checked(RFC_TOKEN, keys, now=now, slack=0, iss=b"joe"), [answer])
        self.assertEqual(checked(RFC_TOKEN, keys, now=0, slack=0, iss=b"jo"), [8])
        self.assertEqual(checked(RFC_TOKEN, keys, now=0, slack=0, aud=b"joe"), [9])
        self.assertEqual(checked(RFC_TOKEN, row(b"", RFC_KEY[:-1]), now=0, slack=0), [4])

    def test_what_tk_make_made(self):
        for key in ([1], spread(64)):
            for kid in (b"", b"k", b"x" * 64):
                keys = row(b"other", b"o") + row(kid, key)
                for claims in (b"{}", b'{"exp":991,"aud":["us"]}', b' {"a" : [ ] } '):
                    token = tk_make(1000, list(claims), key, list(kid))[1:]
                    self.assertEqual(checked(token, keys), [0])
                    self.assertEqual(checked(token, row(b"other", b"o")), [3])


class Arguments(unittest.TestCase):
    def test_range_of_i_and_a(self):
        for length in (-1, 0, 1, 1023, 1024):
            name = b"x" * length if length > 0 else b""
            token = signed(HEADER, b'{"iss":"%s","aud":"%s"}' % (name, name), KEY)
            self.assertEqual(tk_check(0, 0, length, -1, token, KEYS, list(name), []), [0])
            self.assertEqual(tk_check(0, 0, -1, length, token, KEYS, [], list(name)), [0])
            self.assertEqual(tk_check(0, 0, length, length, token, KEYS, list(name), list(name)), [0])
        for length in (-2, -3, -2147483648, 1025, 1026, 2147483647):
            for other in (-1, 0, -2, 1025):
                self.assertEqual(tk_check(0, 0, length, other, token, KEYS, [], []), [-2])
                self.assertEqual(tk_check(0, 0, other, length, token, KEYS, [], []), [-2])

    def test_ahead_of_all_else(self):
        for length in (-2, 1025):
            for token in ([], list(b"a.b"), signed(HEADER, b"{}", KEY)):
                for keys in ([], [0], [5], KEYS, KEYS + [1]):
                    self.assertEqual(tk_check(0, 0, length, -1, token, keys, [], []), [-2])
                    self.assertEqual(tk_check(0, 0, -1, length, token, keys, [], []), [-2])

    def test_nothing_and_no_bytes_are_unlike(self):
        token = signed(HEADER, b"{}", KEY)
        self.assertEqual(tk_check(0, 0, -1, -1, token, KEYS, [], []), [0])
        self.assertEqual(tk_check(0, 0, 0, -1, token, KEYS, [], []), [8])
        self.assertEqual(tk_check(0, 0, -1, 0, token, KEYS, [], []), [9])


class LikeAnother(unittest.TestCase):
    """Calls made by chance, always the same, against Python's own json, base64 and hmac."""

    headers = (
        HEADER, HEADER, HEADER, b'{"alg":"HS256"}', b'{"alg":"HS256","kid":"a"}', b'{"alg":"HS256","kid":"b"}',
        b'{"kid":"\\u0061","alg":"HS\\u003256"}', b'{"alg":"none"}', b'{"alg":"HS256","crit":[]}', b"[]",
    )
    keys = (KEYS, KEYS, row(b"", KEY) + row(b"a", KEY), row(b"a", KEY), row(b"a", b"?") + KEYS, [], KEYS + [0])
    signers = (KEY, KEY, KEY, KEY, b"?")
    names = ("exp", "nbf", "iat", "iss", "sub", "jti", "aud", "other")
    values = {
        "exp": (1, 989, 990, 991, 999, 1000, 1001, 2**53 - 1, 2**53, "1"),
        "nbf": (1, 1000, 1009, 1010, 1011, 2000, 2**53 - 1, 2**53, -1),
        "iat": (1, 2000, 1.5),
        "iss": ("joe", "joe", "joe", "j", "", 1),
        "aud": ("us", "us", ["us"], ["a", "us"], ["a", "us", ""], [], ["a"], "a", "", ["us", 1]),
    }
    wanted = (None, None, b"", b"joe", b"us", b"a")

    def claims(self, chance):
        names = chance.sample(self.names, chance.randrange(5))
        value = {name: chance.choice(self.values.get(name, ("x", "x", "x", None))) for name in names}
        return json.dumps(value, indent=chance.choice((None, 1))).encode()

    def broken(self, chance, token):
        place = chance.randrange(len(token))
        return token[:place] + chance.choice(([], [46], [65], [95], [61])) + token[place + chance.randrange(2):]

    def test_made_and_broken(self):
        chance = random.Random(7519)
        seen = {}
        for step in range(6000):
            token = signed(chance.choice(self.headers), self.claims(chance), chance.choice(self.signers))
            if chance.random() < 0.1:
                token = self.broken(chance, token)
            iss = chance.choice(self.wanted)
            aud = chance.choice(self.wanted)
            args = (chance.choice((0, 1000, 1000, 1001)), chance.choice((0, 10)),
                    -1 if iss is None else len(iss), -1 if aud is None else len(aud),
                    token, chance.choice(self.keys), list(iss or b""), list(aud or b""))
            answer = token_oracle.check(*args)
            seen[answer[0]] = seen.get(answer[0], 0) + 1
            self.assertEqual(tk_check(*args), answer, (args, bytes(token)))
        self.assertEqual(sorted(seen), [-3] + list(range(10)))
        self.assertGreater(min(seen.values()), 30, seen)

    def test_samples_of_claims(self):
        for samples, right in ((right_claims(), True), (wrong_claims(), False)):
            for claims in samples:
                for iss in ([], [97]):
                    args = (1000, 10, len(iss), -1, signed(HEADER, claims, KEY), KEYS, iss, [])
                    answer = tk_check(*args)
                    self.assertEqual(answer, token_oracle.check(*args), claims[:60])
                    self.assertEqual(answer != [5], right, claims[:60])


class InTime(unittest.TestCase):
    def timed(self, answer, *args):
        start = time.monotonic()
        given = tk_check(*args)
        self.assertLess(time.monotonic() - start, 10)
        self.assertEqual(given, [answer])

    def test_long_tokens(self):
        room = (100000 - len(signed(HEADER, b"", KEY))) * 3 // 4
        for claims in (b'{"a":"' + b"x" * (room - 8) + b'"}', b'{"aud":[' + b'"a",' * ((room - 20) // 4) + b'"us"]}',
                       b"{" + b" " * (room - 2) + b"}"):
            token = signed(HEADER, claims, KEY)
            self.assertTrue(99970 <= len(token) <= 100000, len(token))
            self.timed(0, 1000, 10, -1, -1, token, KEYS, [], [])
        token = signed(HEADER, b'{"exp":' + b"9" * (room - 8) + b"}", KEY)
        self.timed(5, 1000, 10, -1, -1, token, KEYS, [], [])
        token = signed(HEADER, b'{"aud":[' + b'"a",' * ((room - 20) // 4) + b'"us"]}', KEY)
        self.timed(0, 1000, 10, -1, 2, token, KEYS, [], list(b"us"))
        self.timed(9, 1000, 10, -1, 2, token, KEYS, [], list(b"uz"))

    def test_long_headers_and_signatures(self):
        self.timed(2, 0, 0, -1, -1, written(b"[" * 74000) + list(b".e30."), KEYS, [], [])
        self.timed(4, 0, 0, -1, -1, written(HEADER) + list(b".e30.") + [65] * 99900, KEYS, [], [])
        header = b'{"alg":"HS256","kid":"' + b"x" * 74000 + b'"}'
        self.timed(3, 0, 0, -1, -1, signed(header, b"{}", KEY), KEYS, [], [])

    def test_no_tokens(self):
        for token in ([46] * 100000, [65] * 100000, [0] * 100000, [46, 46] + [65] * 99997 + [61]):
            self.timed(1, 0, 0, -1, -1, token, KEYS, [], [])

    def test_long_keys(self):
        keys = [0, 1, 7] * 21845
        token = signed(HEADER, b"{}", [7])
        self.timed(0, 0, 0, -1, -1, token, keys, [], [])
        self.timed(-3, 0, 0, -1, -1, token, keys + [0], [], [])
        named = signed(b'{"alg":"HS256","kid":"z"}', b"{}", b"!")
        self.timed(3, 0, 0, -1, -1, named, keys, [], [])
        self.timed(0, 0, 0, -1, -1, named, keys[3:] + row(b"z", b"!"), [], [])


class LeftAsItWas(unittest.TestCase):
    calls = [faulty(faults) for many in range(3) for faults in itertools.combinations(FAULTS, many)] + [
        (0, 0, -1, -1, [], [], [], []),
        (0, 0, 0, 0, signed(HEADER, b'{"iss":"","aud":[""]}', KEY), KEYS, [], []),
        (2**64 - 1, 2**32 - 1, -1, -1, list(RFC_TOKEN), row(b"", RFC_KEY), [], []),
    ]

    def test_what_is_handed_in(self):
        for call in self.calls:
            before = json.dumps(call)
            tk_check(*call).append(9)
            self.assertEqual(json.dumps(call), before)

    def test_not_changed_for_a_while_either(self):
        for call in self.calls:
            tk_check(*call[:4], *[Untouched(part) for part in call[4:]])

    def test_one_list_as_iss_and_aud(self):
        both = list(b"joe")
        token = signed(HEADER, b'{"iss":"joe","aud":["joe"]}', KEY)
        self.assertEqual(tk_check(0, 0, 3, 3, token, KEYS, both, both), [0])

    def test_names_of_the_arguments(self):
        token = signed(HEADER, b'{"iss":"joe","aud":["us"],"nbf":5,"exp":7}', KEY)
        given = tk_check(
            now=6, slack=0, i=3, a=2, token=token, keys=list(KEYS), iss=list(b"joe"), aud=list(b"us"))
        self.assertEqual(given, [0])

    def test_second_call_answers_like_the_first(self):
        for call in self.calls:
            first = tk_check(*call)
            kept = list(first)
            first.append(9)
            tk_check(*faulty((9,)))
            self.assertEqual(tk_check(*call), kept)

    def test_kinds(self):
        for call in self.calls:
            given = tk_check(*call)
            self.assertIs(type(given), list)
            self.assertEqual([type(number) for number in given], [int])


if __name__ == "__main__":
    unittest.main()
