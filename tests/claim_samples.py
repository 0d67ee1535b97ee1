"""Claims that are right and claims that aren't, for tk_make and tk_check alike."""

TIMES = (b"exp", b"nbf", b"iat")
STRINGS = (b"iss", b"sub", b"jti")

# The same names, written with escapes.
ESCAPED = {
    b"exp": (b"\\u0065xp", b"e\\u0078p", b"\\u0065\\u0078\\u0070"),
    b"nbf": (b"\\u006ebf", b"nb\\u0066"),
    b"iat": (b"\\u0069at", b"ia\\u0074"),
    b"iss": (b"\\u0069ss", b"is\\u0073"),
    b"sub": (b"\\u0073ub", b"su\\u0062"),
    b"jti": (b"\\u006Ati", b"\\u006ati", b"jt\\u0069"),
    b"aud": (b"\\u0061ud", b"au\\u0064"),
}

# Names that are near to one of these, and may be anything.
OTHER_NAMES = (
    b"", b"Exp", b"EXP", b"exp ", b" exp", b"ex", b"expp", b"e\\\\u0078p", b"exp\\u0000", b"iss2", b"ISS", b"audience",
    b"alg", b"typ", b"kid", b"crit", b"admin", b"http://example.com/is_root", b"\xc3\xa9", b"\xd0\xb5xp",
)

RIGHT_TIMES = (
    b"0", b"1", b"9", b"10", b"1516239022", b"999999999999999", b"1000000000000000", b"8999999999999999",
    b"9007199254740990", b"9007199254740991",
)
WRONG_TIMES = (
    # No numbers.
    b'"1"', b'""', b"null", b"true", b"false", b"[]", b"[1]", b"{}", b'{"a":1}', b'"9007199254740991"',
    # A sign, a point, an exponent.
    b"-0", b"-1", b"-1516239022", b"1.0", b"0.0", b"1.5", b"1516239022.0", b"1e3", b"1E3", b"1e+3", b"1e-3", b"0e0",
    b"1e0", b"1.0e1", b"-1e1", b"1E400",
    # 2^53 and above.
    b"9007199254740992", b"9007199254740993", b"9007199254741000", b"9999999999999999", b"10000000000000000",
    b"10000000000000001", b"18446744073709551616", b"1" + b"0" * 300, b"9" * 4299, b"9" * 4301, b"9" * 50000,
    b"1" + b"0" * 99,
)

RIGHT_STRINGS = (b'""', b'"joe"', b'"1"', b'"null"', b'"\\u006aoe"', b'"\xc3\xa9"', b'"\\ud83d\\ude00"', b'"a\\n\\"b"')
NO_STRINGS = (b"0", b"1", b"-1.5e3", b"null", b"true", b"false", b"[]", b'["joe"]', b"{}", b'{"a":"joe"}')

RIGHT_AUDIENCES = RIGHT_STRINGS + (
    b"[]", b"[ ]", b'["a"]', b'["a","b"]', b'["a","a"]', b'[ "a" , "b" ]', b'["","\\u0061","\xc3\xa9"]',
    b"[" + b'"x",' * 50 + b'"y"]',
)
WRONG_AUDIENCES = (
    b"0", b"1", b"null", b"true", b"false", b"{}", b'{"a":"b"}', b"[1]", b"[null]", b"[true]", b"[[]]", b'[["a"]]',
    b"[{}]", b'["a",1]', b'[1,"a"]', b'["a",null,"b"]', b'["a",["b"]]', b'["a","b",{}]', b'["a","b",false]',
)

NO_JSON = (
    b"", b" ", b"{", b"}", b"{}}", b"{}{}", b"{},", b"{} 1", b'{"a"}', b'{"a":}', b'{"a":1,}', b"{a:1}", b"{'a':1}",
    b"\xef\xbb\xbf{}", b'{"a":\xff}', b'{"a":"\xff"}', b'{"a":"\n"}', b'{"a":"\\ud83d"}', b"nul", b'{"a":nul}',
    # Leading noughts and further forms that are no numbers.
    b'{"exp":01}', b'{"exp":00}', b'{"exp":+1}', b'{"exp":1.}', b'{"exp":.5}', b'{"exp":1e}', b'{"exp":0x1}',
    b'{"nbf":007}', b'{"iat":-}', b'{"a":01}',
    # A name twice.
    b'{"a":1,"a":1}', b'{"exp":1,"exp":1}', b'{"exp":1,"\\u0065xp":1}', b'{"iss":"a","sub":"b","iss":"a"}',
    b'{"a":{"b":1,"b":2}}', b'{"aud":[],"aud":[]}',
    # Too deep: the object itself is one.
    b'{"a":' + b"[" * 16 + b"]" * 16 + b"}", b'{"a":' * 17 + b"1" + b"}" * 17, b'{"a":' * 12000, b"[" * 60000,
)

NO_OBJECTS = (
    b"null", b"true", b"false", b"0", b"1516239022", b'"exp"', b'""', b"[]", b"[{}]", b'[{"exp":1}]', b' ["exp",1] ',
)

OTHER_VALUES = (
    b"null", b"true", b"0", b"-1.5e-3", b'""', b"[]", b"{}", b'[1,[2],{"exp":"x"}]', b'{"exp":"x","aud":1}',
    b"[" * 15 + b"]" * 15,
)


def right_claims():
    """Claims that are right, of every sort."""
    yield from (b"{}", b" {} ", b"{\n}", b'{"a":1}', b'{"sub":"1234567890","name":"John Doe","iat":1516239022}')
    yield b'{"iss":"joe",\r\n "exp":1300819380,\r\n "http://example.com/is_root":true}'
    yield b'{"exp":9,"nbf":8,"iat":7,"iss":"a","sub":"b","jti":"c","aud":["d","e"]}'
    yield b'\t{ "exp" : 9 , "aud" : [ "d" ] }\r\n'
    for names, values in ((TIMES, RIGHT_TIMES), (STRINGS, RIGHT_STRINGS), ((b"aud",), RIGHT_AUDIENCES)):
        yield from placed(names, values)
    for name in OTHER_NAMES:
        for value in OTHER_VALUES:
            yield b'{"' + name + b'":' + value + b"}"
    # What stands deeper is not what is asked for.
    for name, value in ((b"exp", b'"x"'), (b"nbf", b"1.5"), (b"iss", b"1"), (b"aud", b"1")):
        yield b'{"a":{"' + name + b'":' + value + b"}}"
        yield b'{"a":[{"' + name + b'":' + value + b"}]}"


def wrong_claims():
    """Claims that aren't right, of every sort."""
    yield from NO_JSON
    yield from NO_OBJECTS
    for names, values in ((TIMES, WRONG_TIMES), (STRINGS, NO_STRINGS), ((b"aud",), WRONG_AUDIENCES)):
        yield from placed(names, values)


def placed(names, values):
    """Objects that have each name, plain and with escapes, with each value, alone and among others."""
    for name in names:
        for value in values:
            yield b'{"' + name + b'":' + value + b"}"
        for form in ESCAPED[name]:
            yield b'{"' + form + b'":' + values[0] + b"}"
            yield b'{"a":1, "' + form + b'" :\n' + values[-2] + b' ,"b":[]}'
        yield b'{"a":null,"' + name + b'":' + values[1] + b"}"
        yield b'{"' + name + b'":' + values[2] + b',"a":null}'
