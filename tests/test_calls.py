"""What holds for all seven calls: nothing handed in is changed, and nothing is kept from one call to the next."""

import inspect
import itertools
import random
import unittest

from check_samples import FAULTS, faulty
from samples import Untouched, row, signed, spread
from tokenpass import tokens

PLENTY = 2147483647
HEADER = b'{"alg":"HS256","typ":"JWT"}'
CLAIMS = b'{"iss":"joe","aud":["us","them"],"exp":2000,"n\\u0061me":{ "a":[1,2] }}'
TOKEN = signed(HEADER, CLAIMS, b"key")
TEXTS = [list(text) for text in (b"", b"AA", b"AB", b"Zm9v", b"{}", b"[1,{}]", b"[1,", CLAIMS)] + [TOKEN, spread(100)]

# The interface: each call and the names of what is handed in.
INTERFACE = {
    "tk_pack": ["most", "b"],
    "tk_unpack": ["most", "t"],
    "tk_mac": ["key", "b"],
    "tk_json": ["t"],
    "tk_make": ["most", "claims", "key", "kid"],
    "tk_check": ["now", "slack", "i", "a", "token", "keys", "iss", "aud"],
    "tk_claim": ["most", "token", "name"],
}


def calls():
    """Names of calls and what is handed in, with answers and refusals of each sort."""
    for most, text in itertools.product((-1, 0, 3, PLENTY), TEXTS):
        yield "tk_pack", (most, text)
        yield "tk_unpack", (most, text)
        for name in ([], list(b"iss"), list(b"name"), [255] * 64):
            yield "tk_claim", (most, text, name)
        for key, kid in itertools.product(([], [7], spread(64)), ([], list(b"k1"), [34])):
            yield "tk_make", (most, text, key, kid)
    for text in TEXTS:
        yield "tk_json", (text,)
        for key in ([], [7], spread(64)):
            yield "tk_mac", (key, text)
        for keys in ([], [0], row(b"", b"key")):
            yield "tk_check", (1999, 0, -1, 2, text, keys, [], list(b"us"))
    for many in range(3):
        for faults in itertools.combinations(FAULTS, many):
            yield "tk_check", faulty(faults)


def copied(args, kind):
    return [kind(part) if isinstance(part, list) else part for part in args]


def asked(name, args):
    return getattr(tokens, name)(*copied(args, list))


class AllCalls(unittest.TestCase):
    def test_interface(self):
        for name, names in INTERFACE.items():
            given = inspect.signature(getattr(tokens, name)).parameters.values()
            self.assertEqual([part.name for part in given], names)
            self.assertTrue(all(part.default is part.empty for part in given), name)

    def test_each_call_is_among_them(self):
        self.assertEqual({name for name, args in calls()}, set(INTERFACE))

    def test_what_is_handed_in_stays_as_it_was(self):
        for name, args in calls():
            handed = copied(args, list)
            getattr(tokens, name)(*handed).append(9)
            self.assertEqual(handed, list(args), name)
            getattr(tokens, name)(*copied(args, Untouched))

    def test_a_second_call_answers_as_the_first(self):
        first = [(name, args, asked(name, args)) for name, args in calls()]
        kept = [list(answer) for name, args, answer in first]
        for name, args, answer in first:
            answer.append(9)
        order = list(range(len(first)))
        random.Random(5).shuffle(order)
        for place in order:
            name, args, answer = first[place]
            self.assertEqual(asked(name, args), kept[place], name)

    def test_a_refusal_is_its_number_alone(self):
        seen = {}
        for name, args in calls():
            answer = asked(name, args)
            seen.setdefault(name, set()).add(min(answer[0], 0))
            if answer[0] < 0:
                self.assertEqual(len(answer), 1, name)
        self.assertEqual(seen, {
            "tk_pack": {0, -2, -7},
            "tk_unpack": {0, -2, -3, -7},
            "tk_mac": {0, -2},
            "tk_json": {0, -3},
            "tk_make": {0, -2, -3, -7},
            "tk_check": {0, -2, -3},
            "tk_claim": {0, -2, -3, -5, -7},
        })

    def test_how_long_an_answer_is(self):
        for name, args in calls():
            answer = asked(name, args)
            if name in ("tk_json", "tk_check"):
                self.assertEqual(len(answer), 1)
            elif answer[0] >= 0:
                self.assertEqual(len(answer), 33 if name == "tk_mac" else answer[0] + 1)


if __name__ == "__main__":
    unittest.main()
