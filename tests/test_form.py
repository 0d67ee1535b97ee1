"""The form of the package's own files: the rules that can be seen from a file's text and tree.

The names behind "L" are the rules of LANGUAGE.md. Not every rule is checked here.
"""

import ast
import builtins
import pathlib
import re
import unittest

PACKAGE = pathlib.Path(__file__).resolve().parent.parent / "tokenpass"

OWN_NAMES = set(
    "len range enumerate zip min max sum abs sorted reversed int str bool list tuple dict set frozenset isinstance"
    " ord repr any all divmod Exception ValueError TypeError KeyError IndexError LookupError ZeroDivisionError"
    " ArithmeticError OverflowError RuntimeError NotImplementedError AttributeError StopIteration".split()
)

METHODS = set(
    "append clear copy count endswith extend find get index insert isalnum isalpha isdigit islower isspace isupper"
    " items join keys ljust lower lstrip partition pop remove replace reverse rfind rjust rpartition rsplit rstrip"
    " setdefault split splitlines startswith strip update upper values zfill bit_length".split()
)

TWO_UNDERSCORES = ("__init__", "__eq__", "__repr__", "__str__", "__len__", "__all__", "__version__")

# Names of Python's own methods that a value of an object may have all the same.
FREE_VALUES = set("count index title find get join lower upper split strip copy add".split())

NODES = set(
    "Module Expr ImportFrom alias FunctionDef arguments arg ClassDef Lambda Return Assign AugAssign For While If Raise"
    " Try ExceptHandler Pass Break Continue Call Name Load Store Attribute Subscript Slice Constant List Tuple Dict Set"
    " BinOp UnaryOp BoolOp Compare IfExp ListComp comprehension JoinedStr FormattedValue"
    " Add Sub Mult FloorDiv Mod Pow LShift RShift BitOr BitXor BitAnd Invert Not UAdd USub And Or"
    " Eq NotEq Lt LtE Gt GtE Is IsNot In NotIn".split()
)

WALKED = ("zip", "enumerate", "reversed", "range", "items", "keys", "values")
WALKERS = ("list", "tuple", "dict", "sorted", "sum", "any", "all", "enumerate", "zip", "min", "max")

WORDS = re.compile(
    r"\b(type|typing|typing_extensions|enum|Enum|IntEnum|StrEnum|Flag|IntFlag|Generic|Protocol|ABC|ABCMeta|namedtuple"
    r"|NamedTuple|TypedDict|TYPE_CHECKING|abstractmethod)\b|dataclass|overload|contextmanager"
)


def package_files():
    return sorted(path for path in PACKAGE.rglob("*") if path.is_file() and "__pycache__" not in path.parts)


def texts():
    return [(path.name, path.read_text(encoding="utf-8")) for path in package_files()]


def nodes(*kinds):
    """Each node of these kinds in the package, with a word on where it stands."""
    for name, text in texts():
        for node in ast.walk(ast.parse(text)):
            if isinstance(node, kinds):
                yield node, f"{name}, line {getattr(node, 'lineno', 0)}"


def bound_names():
    for node, where in nodes(ast.FunctionDef, ast.ClassDef):
        yield node.name, where
    for node, where in nodes(ast.arg):
        yield node.arg, where
    for node, where in nodes(ast.Name):
        if isinstance(node.ctx, ast.Store):
            yield node.id, where


def bound_here(node):
    """The names that a row at a file's top binds, but for imports."""
    if isinstance(node, (ast.FunctionDef, ast.ClassDef)):
        return [node.name]
    if isinstance(node, ast.Assign):
        return [target.id for target in node.targets]
    return []


class Form(unittest.TestCase):
    def test_files(self):
        names = [str(path.relative_to(PACKAGE)) for path in package_files()]
        self.assertIn("__init__.py", names)
        self.assertIn("tokens.py", names)
        for name in names:
            self.assertRegex(name, r"\A([a-z][a-z0-9_]*|__init__|__main__)\.py\Z", "L1, L14")

    def test_signs_words_and_size(self):
        for name, text in texts():
            self.assertRegex(text, r"\A[ -~\n]*\Z", f"L14 {name}")
            self.assertIsNone(WORDS.search(text), f"L17 {name}")
            rows = text.splitlines()
            self.assertLessEqual(len(rows), 400, f"L10 {name}")
            self.assertLessEqual(max(len(row) for row in rows), 120, f"L10 {name}")
        for node, where in nodes(ast.FunctionDef):
            self.assertLessEqual(node.end_lineno - node.lineno + 1, 40, f"L10 {where}")

    def test_statements_and_expressions(self):
        for node, where in nodes(ast.AST):
            self.assertIn(type(node).__name__, NODES, f"L6, L7 {where}")
        for node, where in nodes(ast.Constant):
            self.assertIn(type(node.value), (int, str, bool, type(None)), f"L7 {where}")
            self.assertNotIn("%", str(node.value), f"L27 {where}")
        for node, where in nodes(ast.For, ast.While):
            self.assertEqual(node.orelse, [], f"L6 {where}")
        for node, where in nodes(ast.Assign):
            self.assertEqual(len(node.targets), 1, f"L6 {where}")

    def test_defs(self):
        for node, where in nodes(ast.FunctionDef, ast.ClassDef):
            self.assertEqual(node.decorator_list, [], f"L4, L5 {where}")
        for node, where in nodes(ast.arguments):
            self.assertIsNone(node.vararg or node.kwarg, f"L4 {where}")
            self.assertEqual(node.kwonlyargs + node.posonlyargs, [], f"L4 {where}")

    def test_classes(self):
        for node, where in nodes(ast.ClassDef):
            self.assertLessEqual(len(node.bases), 1, f"L5 {where}")
            for part in node.body:
                self.assertIsInstance(part, (ast.FunctionDef, ast.Pass), f"L5 {where}")

    def test_errors(self):
        for node, where in nodes(ast.ExceptHandler):
            self.assertIsInstance(node.type, (ast.Name, ast.Tuple), f"L19 {where}")
            for part in ast.walk(node.type):
                self.assertNotIn(getattr(part, "id", ""), ("Exception", "TypeError"), f"L19 {where}")
        for node, where in nodes(ast.Raise):
            self.assertIsInstance(node.exc, ast.Call, f"L19 {where}")

    def test_is(self):
        for node, where in nodes(ast.Compare):
            if any(isinstance(sign, (ast.Is, ast.IsNot)) for sign in node.ops):
                for side in node.comparators:
                    self.assertIsInstance(side, ast.Constant, f"L20 {where}")
                    self.assertIn(side.value, (None, True, False), f"L20 {where}")

    def test_walked_at_once(self):
        walked = [node.iter for node, where in nodes(ast.For, ast.comprehension)]
        for node, where in nodes(ast.Call):
            if getattr(node.func, "id", "") in WALKERS or getattr(node.func, "attr", "") == "join":
                walked.extend(node.args)
        places = {(part.lineno, part.col_offset, ast.dump(part)) for part in walked}
        for node, where in nodes(ast.Call):
            name = getattr(node.func, "id", "") or getattr(node.func, "attr", "")
            if name in WALKED:
                self.assertIn((node.lineno, node.col_offset, ast.dump(node)), places, f"L23 {where}")

    def test_imports(self):
        for node, where in nodes(ast.ImportFrom):
            self.assertEqual(node.level, 0, f"L2 {where}")
            self.assertRegex(node.module, r"\Atokenpass\.[a-z0-9_]+\Z", f"L2, L16 {where}")
            self.assertNotIn("*", [name.name for name in node.names], f"L2 {where}")

    def test_imported_names_are_defined_there(self):
        defined = {}
        drawn = {}
        for name, text in texts():
            body = ast.parse(text).body
            module = "tokenpass." + name[:-len(".py")]
            rows = [node for node in body if isinstance(node, ast.ImportFrom)]
            defined[module] = {name for node in body for name in bound_here(node)}
            drawn[module] = {node.module for node in rows}
            for node in rows:
                self.assertEqual([part.asname for part in node.names if part.asname], [], f"L2 {name}")
        for node, where in nodes(ast.ImportFrom):
            self.assertLessEqual({part.name for part in node.names}, defined[node.module], f"L16 {where}")
        while drawn:
            free = [module for module in drawn if not drawn[module]]
            self.assertTrue(free, f"L16 files that draw from one another among {sorted(drawn)}")
            drawn = {module: drawn[module] - set(free) for module in drawn if module not in free}

    def test_top_of_a_file(self):
        for name, text in texts():
            bound = [part for node in ast.parse(text).body for part in bound_here(node)]
            self.assertEqual(len(set(bound)), len(bound), f"L15 {name}")

    def test_locals_are_not_called_like_an_import_or_a_class(self):
        for name, text in texts():
            tree = ast.parse(text)
            taken = {part.name for node in tree.body if isinstance(node, ast.ImportFrom) for part in node.names}
            taken |= {node.name for node in tree.body if isinstance(node, ast.ClassDef)}
            for node in ast.walk(tree):
                if isinstance(node, ast.arg):
                    self.assertNotIn(node.arg, taken, f"L15 {name}, line {node.lineno}")
                if isinstance(node, ast.Name) and isinstance(node.ctx, ast.Store):
                    self.assertNotIn(node.id, taken, f"L15 {name}, line {node.lineno}")

    def test_values_of_objects(self):
        methods = {part.name for node, where in nodes(ast.ClassDef) for part in node.body
                   if isinstance(part, ast.FunctionDef)}
        pythons = {name for kind in (str, int, list, dict, set, bytes) for name in dir(kind)}
        for node, where in nodes(ast.Attribute):
            if isinstance(node.ctx, ast.Store):
                self.assertIsInstance(node.value, ast.Name, f"L18 {where}")
                self.assertNotIn(node.attr, methods, f"L18 {where}")
                self.assertNotIn(node.attr, pythons - FREE_VALUES, f"L26 {where}")

    def test_names(self):
        for name, where in bound_names():
            if name not in TWO_UNDERSCORES:
                self.assertRegex(name, r"\A[A-Za-z][A-Za-z0-9_]*\Z", f"L12 {where}")
                self.assertFalse(hasattr(builtins, name), f"L8, L15 {where}")
        for node, where in nodes(ast.Name):
            if hasattr(builtins, node.id):
                self.assertIn(node.id, OWN_NAMES, f"L8, L27 {where}")

    def test_methods(self):
        own = {name for name, where in bound_names()}
        for node, where in nodes(ast.Call):
            if isinstance(node.func, ast.Attribute):
                self.assertIn(node.func.attr, METHODS | own | {"__init__"}, f"L25 {where}")


if __name__ == "__main__":
    unittest.main()
