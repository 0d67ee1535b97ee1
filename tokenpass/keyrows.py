"""Keys by name, as rows of bytes: a name's length, the name, a key's length, the key."""

from tokenpass.hs256 import LONGEST_KEY


def read_rows(keys):
    """The rows in their order, each a name and a key; None if keys isn't such rows."""
    rows = []
    place = 0
    while place < len(keys):
        name_end = place + 1 + keys[place]
        if name_end >= len(keys):
            return None
        row_end = name_end + 1 + keys[name_end]
        if not 1 <= keys[name_end] <= LONGEST_KEY or row_end > len(keys):
            return None
        rows.append((keys[place + 1:name_end], keys[name_end + 1:row_end]))
        place = row_end
    return rows


def key_named(rows, name):
    """The key of the first row that has this name, None if no row has it."""
    for row_name, key in rows:
        if row_name == name:
            return key
    return None
