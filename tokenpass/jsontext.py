"""JSON (RFC 8259), held strictly, over lists of bytes."""

from tokenpass.utf8 import sign_size, utf8_of

MOST_DEEP = 16
# What stands behind the text's end: unlike every byte, so that no text can go on there.
NO_BYTE = -1
# Space, tab, line feed, carriage return.
BLANKS = (32, 9, 10, 13)
QUOTE = 34
BACKSLASH = 92

ARRAY = "array"
OBJECT = "object"
STRING = "string"
NUMBER = "number"
# A value's kind by its first byte; that of a word is the word itself. All else must be a number, or is no JSON.
KINDS = {
    91: "array",
    123: "object",
    34: "string",
    110: "null",
    116: "true",
    102: "false",
}

# The byte behind a backslash, and the byte that both stand for.
ESCAPES = {
    34: 34,  # a quote
    92: 92,  # a backslash
    47: 47,  # a slash
    98: 8,  # b
    102: 12,  # f
    110: 10,  # n
    114: 13,  # r
    116: 9,  # t
}


# The text is no JSON.
class NotJson(ValueError):
    pass


def is_digit(byte):
    return ord("0") <= byte <= ord("9")


def hex_of(byte):
    """The number that a byte stands for as a hexadecimal digit, -1 if it is none."""
    if is_digit(byte):
        return byte - ord("0")
    if ord("A") <= byte <= ord("F"):
        return byte - ord("A") + 10
    if ord("a") <= byte <= ord("f"):
        return byte - ord("a") + 10
    return -1


# A value of a text, and where it stands there, the blanks around it left out.
class Value:
    def __init__(self, kind, inner, begin, end):
        self.kind = kind
        # Of a string its bytes, escapes resolved; of a number its bytes; of an array its values in a list; of an
        # object its values in a dict, by their names as tuples of bytes, escapes resolved; of a word None.
        self.inner = inner
        self.begin = begin
        self.end = end


# Goes through a text from its first byte to its last. Calls within one another are few, since what is nested
# deeper than MOST_DEEP is refused ahead of the next call.
class Reader:
    def __init__(self, text):
        self.text = text
        self.place = 0
        self.count = 0

    def next_byte(self):
        if self.place < len(self.text):
            return self.text[self.place]
        return NO_BYTE

    def passes(self, byte):
        """Goes past the next byte if it is this one, and says whether it did."""
        if self.next_byte() != byte:
            return False
        self.place = self.place + 1
        return True

    def take(self, byte):
        """Goes past the next byte, which must be this one."""
        if not self.passes(byte):
            raise NotJson()

    def skip_blanks(self):
        while self.next_byte() in BLANKS:
            self.place = self.place + 1

    def read_text(self):
        """The whole text: one value."""
        value = self.read_value(0)
        if self.place < len(self.text):
            raise NotJson()
        return value

    def read_value(self, around):
        """A value, read with the blanks around it, within so many arrays and objects."""
        self.skip_blanks()
        self.count = self.count + 1
        begin = self.place
        kind = KINDS.get(self.next_byte(), NUMBER)
        inner = self.read_inner(kind, around)
        end = self.place
        self.skip_blanks()
        return Value(kind, inner, begin, end)

    def read_inner(self, kind, around):
        """What a value of this kind holds."""
        if kind == ARRAY or kind == OBJECT:
            return self.read_nest(kind, around)
        if kind == STRING:
            return self.read_string()
        if kind == NUMBER:
            return self.read_number()
        self.read_word(kind)
        return None

    def read_nest(self, kind, around):
        if around == MOST_DEEP:
            raise NotJson()
        if kind == ARRAY:
            return self.read_array(around + 1)
        return self.read_object(around + 1)

    def read_array(self, around):
        values = []
        self.take(ord("["))
        self.skip_blanks()
        if self.passes(ord("]")):
            return values
        values.append(self.read_value(around))
        while self.passes(ord(",")):
            values.append(self.read_value(around))
        self.take(ord("]"))
        return values

    def read_object(self, around):
        members = {}
        self.take(ord("{"))
        self.skip_blanks()
        if self.passes(ord("}")):
            return members
        self.read_member(around, members)
        while self.passes(ord(",")):
            self.read_member(around, members)
        self.take(ord("}"))
        return members

    def read_member(self, around, members):
        """A name and its value, which join those that the object has already."""
        self.skip_blanks()
        name = tuple(self.read_string())
        if name in members:
            raise NotJson()
        self.skip_blanks()
        self.take(ord(":"))
        members[name] = self.read_value(around)

    def read_word(self, word):
        for letter in word:
            self.take(ord(letter))

    def read_number(self):
        """The number's bytes as they stand."""
        begin = self.place
        self.passes(ord("-"))
        # Digits behind a 0 at the front are left unread, and nothing that may follow a value begins so.
        if not self.passes(ord("0")):
            self.read_digits()
        if self.passes(ord(".")):
            self.read_digits()
        if self.passes(ord("e")) or self.passes(ord("E")):
            if not self.passes(ord("+")):
                self.passes(ord("-"))
            self.read_digits()
        return self.text[begin:self.place]

    def read_digits(self):
        """One digit or more."""
        if not is_digit(self.next_byte()):
            raise NotJson()
        while is_digit(self.next_byte()):
            self.place = self.place + 1

    def read_string(self):
        """The string's bytes in UTF-8, its escapes resolved."""
        said = []
        self.take(QUOTE)
        while not self.passes(QUOTE):
            if self.passes(BACKSLASH):
                said.extend(self.read_escape())
            else:
                said.extend(self.read_sign())
        return said

    def read_sign(self):
        """The bytes of one sign that stands for itself."""
        # NO_BYTE is below 32 too: a string is not at its end where the text is.
        if self.next_byte() < 32:
            raise NotJson()
        start = self.place
        size = sign_size(self.text, start)
        if size == 0:
            raise NotJson()
        self.place = start + size
        return self.text[start:self.place]

    def read_escape(self):
        """The bytes that an escape stands for, read from behind its backslash."""
        if self.passes(ord("u")):
            return utf8_of(self.read_code())
        byte = self.next_byte()
        if byte not in ESCAPES:
            raise NotJson()
        self.take(byte)
        return [ESCAPES[byte]]

    def read_code(self):
        """The sign's number that stands behind the u of an escape; a surrogate's only as a pair."""
        high = self.read_four()
        if not 0xD800 <= high <= 0xDFFF:
            return high
        self.take(BACKSLASH)
        self.take(ord("u"))
        low = self.read_four()
        if high > 0xDBFF or not 0xDC00 <= low <= 0xDFFF:
            raise NotJson()
        return 0x10000 + ((high - 0xD800) << 10) + (low - 0xDC00)

    def read_four(self):
        """The number that four hexadecimal digits stand for."""
        number = 0
        for worth in (4096, 256, 16, 1):
            digit = hex_of(self.next_byte())
            if digit < 0:
                raise NotJson()
            number = number + digit * worth
            self.place = self.place + 1
        return number


def count_values(text):
    """How many values there are in all in the text; NotJson if it is no JSON."""
    reader = Reader(text)
    reader.read_text()
    return reader.count


def read_members(text):
    """The values of the object that the text is, by their names; None if it is no JSON or no object."""
    try:
        value = Reader(text).read_text()
    except NotJson:
        return None
    if value.kind != OBJECT:
        return None
    return value.inner
