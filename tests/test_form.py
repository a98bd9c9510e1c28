"""The form of the package: where the interface stands, and some rules of its Python subset."""

import ast
import re
import unittest
from pathlib import Path

PACKAGE = Path(__file__).resolve().parent.parent / "traymap"

# The interface: file, then name and parameters (None for a class).
INTERFACE = {
    "errors": {
        "TrayError": None,
        "TooMany": None,
        "NoWay": None,
        "NoNumber": None,
        "TooBig": None,
        "NoText": None,
        "NoRow": None,
        "NoName": None,
    },
    "crates": {"is_crate": ["thing"], "is_filling": ["crate", "thing"]},
    "fillings": {
        "how_many": ["crate", "number"],
        "all_fillings": ["crate", "number"],
        "plain": ["crate", "tray"],
    },
    "ways": {
        "is_way": ["one", "other", "thing"],
        "turned": ["way", "filling"],
        "idle": ["crate"],
        "after": ["first", "second"],
    },
    "reading": {"read_off": ["one", "other", "told"]},
    "counting": {
        "ways_many": ["one", "other"],
        "way_at": ["one", "other", "number"],
        "number_of": ["one", "other", "way"],
    },
    "alike": {"parting": ["one", "way", "other_way"], "crates_alike": ["one", "other"]},
    "reach": {"onto": ["one", "other", "way"], "one_to_one": ["one", "way"]},
    "sums": {
        "joined": ["one", "other"],
        "from_left": ["one", "other"],
        "from_right": ["one", "other"],
        "joined_way": ["way", "other_way"],
    },
    "products": {
        "multiplied": ["one", "other"],
        "to_left": ["one", "other"],
        "to_right": ["one", "other"],
        "paired_way": ["one", "other", "way", "other_way"],
    },
    "layers": {
        "put": ["outer", "inner"],
        "tray_rows": ["outer", "inner"],
        "packed": ["outer", "inner", "filling"],
        "unpacked": ["outer", "inner", "filling"],
    },
    "within": {
        "put_way": ["outers", "inners", "way", "inner_way"],
        "regrouped": ["first", "second", "third"],
    },
    "parts": {
        "keeps_trays": ["way"],
        "keeps_wells": ["one", "way"],
        "parts": ["one", "other", "way"],
    },
    "powers": {
        "power": ["upper", "lower"],
        "power_rows": ["upper", "lower"],
        "into_power": ["one", "lower", "upper", "way"],
        "out_of_power": ["one", "lower", "upper", "way"],
        "from_power": ["upper", "lower"],
    },
    "keepers": {"is_keeper": ["thing"], "held": ["keeper"]},
    "texts": {
        "show_crate": ["crate"],
        "show_way": ["way"],
        "read_crate": ["text"],
        "read_way": ["one", "other", "text"],
    },
    "desk": {"Desk": None},
}

# The methods that it lists, by file and class.
METHODS = {("desk", "Desk"): {"say": ["self", "row"]}}

# L17: words that stand nowhere, comments and strings included.
BARRED_WORDS = (
    "type typing typing_extensions enum Enum IntEnum StrEnum Flag IntFlag Generic Protocol "
    "ABC ABCMeta namedtuple NamedTuple TypedDict TYPE_CHECKING abstractmethod"
).split()
BARRED_PARTS = ("dataclass", "overload", "contextmanager")

# L8, and the errors of Python's own that may be named.
BUILTINS = (
    "len range enumerate zip min max sum abs sorted reversed int str bool list tuple dict set "
    "isinstance ord repr any all divmod iter next ValueError KeyError IndexError LookupError "
    "ZeroDivisionError"
).split()


def package_files():
    """The name, the text and the tree of each file of the package."""
    files = []
    for path in sorted(PACKAGE.glob("*.py")):
        text = path.read_text("utf-8")
        files.append((path.name, text, ast.parse(text)))
    return files


def bound_names(tree):
    """All names that a file binds anywhere, and those that it imports."""
    names = set()
    for node in ast.walk(tree):
        if isinstance(node, (ast.FunctionDef, ast.ClassDef)):
            names.add(node.name)
        elif isinstance(node, ast.Name) and isinstance(node.ctx, ast.Store):
            names.add(node.id)
        elif isinstance(node, ast.arg):
            names.add(node.arg)
        elif isinstance(node, ast.alias):
            names.add(node.asname or node.name)
        elif isinstance(node, ast.ExceptHandler) and node.name:
            names.add(node.name)
    return names


def defined_names(tree):
    """The names that a file defines at its top, imports aside."""
    names = set()
    for node in tree.body:
        if isinstance(node, (ast.FunctionDef, ast.ClassDef)):
            names.add(node.name)
        elif isinstance(node, ast.Assign):
            names.update(target.id for target in node.targets)
    return names


def definitions(body):
    """The functions of a file or class with their parameters, and its classes with None."""
    defined = {}
    for node in body:
        if isinstance(node, ast.FunctionDef):
            defined[node.name] = [arg.arg for arg in node.args.args]
        elif isinstance(node, ast.ClassDef):
            defined[node.name] = None
    return defined


class InterfaceTest(unittest.TestCase):
    def test_defined_in_its_own_file(self):
        for file_name, listed in INTERFACE.items():
            tree = ast.parse((PACKAGE / f"{file_name}.py").read_text("utf-8"))
            defined = definitions(tree.body)
            for name, parameters in listed.items():
                with self.subTest(file=file_name, name=name):
                    self.assertIn(name, defined)
                    self.assertEqual(defined[name], parameters)

    def test_methods_are_defined_in_their_own_class(self):
        for (file_name, class_name), listed in METHODS.items():
            tree = ast.parse((PACKAGE / f"{file_name}.py").read_text("utf-8"))
            for node in tree.body:
                if isinstance(node, ast.ClassDef) and node.name == class_name:
                    defined = definitions(node.body)
                    for name, parameters in listed.items():
                        self.assertEqual(defined.get(name), parameters)


class FormTest(unittest.TestCase):
    def test_the_folder_holds_files_of_code_alone(self):
        kept = [path.name for path in PACKAGE.iterdir() if path.name != "__pycache__"]
        for name in kept:
            self.assertRegex(name, r"^(__init__|__main__|[a-z][a-z0-9_]*)\.py$")
        self.assertIn("__init__.py", kept)

    def test_signs_and_sizes(self):
        for name, text, tree in package_files():
            with self.subTest(file=name):
                self.assertRegex(text, r"\A[ -~\n]*\Z")
                lines = text.split("\n")
                self.assertLessEqual(len(lines), 399)
                self.assertLessEqual(max(len(line) for line in lines), 120)
                for node in ast.walk(tree):
                    if isinstance(node, ast.FunctionDef):
                        self.assertLessEqual(node.end_lineno - node.lineno + 1, 40, node.name)

    def test_barred_words(self):
        for name, text, _ in package_files():
            with self.subTest(file=name):
                words = re.findall(r"[A-Za-z0-9_]+", text)
                for word in BARRED_WORDS:
                    self.assertNotIn(word, words)
                for part in BARRED_PARTS:
                    self.assertNotIn(part, text)

    def test_imports_are_of_the_package_alone(self):
        for name, _, tree in package_files():
            with self.subTest(file=name):
                for node in ast.walk(tree):
                    self.assertNotIsInstance(node, ast.Import)
                    if isinstance(node, ast.ImportFrom):
                        self.assertEqual(node.level, 0)
                        self.assertRegex(node.module, r"^traymap\.[a-z]+$")

    def test_imports_name_the_file_that_defines(self):
        defined = {name: defined_names(tree) for name, _, tree in package_files()}
        for name, _, tree in package_files():
            for node in ast.walk(tree):
                if isinstance(node, ast.ImportFrom):
                    source = node.module.split(".")[1] + ".py"
                    for alias in node.names:
                        with self.subTest(file=name, name=alias.name):
                            self.assertIn(alias.name, defined[source])

    def test_no_file_imports_itself_through_others(self):
        wanted = {}
        for name, _, tree in package_files():
            sources = [node.module for node in ast.walk(tree) if isinstance(node, ast.ImportFrom)]
            wanted[name] = {source.split(".")[1] + ".py" for source in sources}
        # Files whose imports are all done are done: what stays behind goes round in a ring.
        while ready := [name for name in wanted if not wanted[name] & set(wanted)]:
            for name in ready:
                del wanted[name]
        self.assertEqual(wanted, {})

    def test_no_inner_name_is_an_import_or_a_class(self):
        for name, _, tree in package_files():
            taken = {alias.name for node in tree.body if isinstance(node, ast.ImportFrom) for alias in node.names}
            taken |= {node.name for node in tree.body if isinstance(node, ast.ClassDef)}
            for node in ast.walk(tree):
                if isinstance(node, ast.FunctionDef):
                    with self.subTest(file=name, function=node.name):
                        self.assertEqual(bound_names(node) & taken, set())

    def test_is_stands_beside_none_and_truths_alone(self):
        for name, _, tree in package_files():
            for node in ast.walk(tree):
                if isinstance(node, ast.Compare):
                    for sign, right in zip(node.ops, node.comparators):
                        if isinstance(sign, (ast.Is, ast.IsNot)):
                            with self.subTest(file=name, line=node.lineno):
                                self.assertIsInstance(right, ast.Constant)
                                self.assertIn(right.value, (None, True, False))

    def test_names(self):
        barred = set(dir(__import__("builtins")))
        for name, _, tree in package_files():
            with self.subTest(file=name):
                for bound in bound_names(tree):
                    if not re.fullmatch(r"__[a-z]+__", bound):
                        self.assertRegex(bound, r"^[A-Za-z][A-Za-z0-9_]*$")
                        self.assertNotIn(bound, barred)

    def test_builtins_that_are_used(self):
        barred = set(dir(__import__("builtins"))) - set(BUILTINS)
        for name, _, tree in package_files():
            with self.subTest(file=name):
                used = [node.id for node in ast.walk(tree) if isinstance(node, ast.Name)]
                self.assertEqual([word for word in used if word in barred], [])

    def test_no_float_and_no_per_cent_sign_in_a_string(self):
        for name, _, tree in package_files():
            with self.subTest(file=name):
                for node in ast.walk(tree):
                    self.assertNotIsInstance(node, ast.Div)
                    if isinstance(node, ast.Constant):
                        self.assertNotIsInstance(node.value, (float, complex))
                        if isinstance(node.value, str):
                            self.assertNotIn("%", node.value)


if __name__ == "__main__":
    unittest.main()
