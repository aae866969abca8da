"""The form of the code: those rules of LANGUAGE.md that a glance at the syntax tree can check."""

import ast
import os
import re
import unittest

PACKAGE = os.path.join(os.path.dirname(os.path.dirname(os.path.abspath(__file__))), "tablemates")

STATEMENTS = (
    ast.FunctionDef, ast.ClassDef, ast.Assign, ast.AugAssign, ast.If, ast.While, ast.For, ast.Return, ast.Break,
    ast.Continue, ast.Pass, ast.Raise, ast.Assert, ast.Delete, ast.Try, ast.Expr, ast.ImportFrom)
BUILTINS = """len range enumerate zip min max sum abs sorted reversed int str bool list tuple dict set isinstance
ord repr any all divmod Exception ValueError TypeError KeyError IndexError LookupError ZeroDivisionError""".split()
LIBRARY = {"math": ("gcd", "lcm", "isqrt"), "heapq": ("heappush", "heappop", "heapify")}
METHODS = """append clear copy count endswith extend find get index insert isalnum isalpha isdigit islower isspace
isupper items join keys ljust lower lstrip partition pop remove replace reverse rfind rjust rpartition rsplit
rstrip setdefault split splitlines startswith strip update upper values zfill bit_length removeprefix removesuffix
add discard""".split()
SPECIAL = ("__init__", "__eq__", "__repr__", "__str__", "__len__")
BARRED = """register mro elements open input law type id dir vars eval exec compile exit help globals locals super
next iter map filter hash round format object bytes slice set list dict str int len min max sum all any range
_wall _cold _tuplegetter _outside _record _written_out _member_names""".split()
BARRED_WORDS = re.compile(r"\b(type|typing|enum|namedtuple|dataclass|overload|contextmanager|abstractmethod)\b")


def file_names():
    return sorted(name for name in os.listdir(PACKAGE) if name != "__pycache__")


def text_of(name):
    with open(os.path.join(PACKAGE, name), encoding="utf-8", newline="") as file:
        return file.read()


def tree_of(name):
    return ast.parse(text_of(name))


def nodes(*kinds):
    """All nodes of these kinds with the name of their file."""
    return [(name, node) for name in file_names() for node in ast.walk(tree_of(name)) if isinstance(node, kinds)]


def bound_names(tree):
    """The names of parameters, variables, functions and classes of a tree."""
    found = []
    for node in ast.walk(tree):
        if isinstance(node, (ast.FunctionDef, ast.ClassDef)):
            found.append(node.name)
        if isinstance(node, ast.arg):
            found.append(node.arg)
        if isinstance(node, ast.Name) and isinstance(node.ctx, ast.Store):
            found.append(node.id)
    return found


def local_names(tree):
    """Those of them that are bound within functions."""
    found = []
    for node in ast.walk(tree):
        if isinstance(node, (ast.FunctionDef, ast.Lambda)):
            found.extend(arg.arg for arg in node.args.args)
            body = node.body if isinstance(node.body, list) else [node.body]
            for part in body:
                found.extend(bound_names(part))
    return found


def defined_in_package():
    found = []
    for name in file_names():
        for node in ast.walk(tree_of(name)):
            if isinstance(node, (ast.FunctionDef, ast.ClassDef)):
                found.append(node.name)
    return found


def top_names(tree):
    found = []
    for node in tree.body:
        if isinstance(node, (ast.FunctionDef, ast.ClassDef)):
            found.append(node.name)
        if isinstance(node, ast.Assign):
            found.extend(target.id for target in node.targets)
    return found


def imported_names(tree):
    return [part.name for node in tree.body if isinstance(node, ast.ImportFrom) for part in node.names]


class Files(unittest.TestCase):
    def test_l1_only_python_files(self):
        for name in file_names():
            self.assertRegex(name, r"^[a-z_]+\.py$")

    def test_l10_sizes(self):
        for name in file_names():
            lines = text_of(name).split("\n")
            self.assertLessEqual(len(lines), 399, name)
            self.assertLessEqual(max(len(line) for line in lines), 120, name)
        for name, node in nodes(ast.FunctionDef):
            self.assertLessEqual(node.end_lineno - node.lineno + 1, 40, (name, node.name))

    def test_l14_characters(self):
        for name in file_names():
            for character in text_of(name):
                self.assertTrue(character == "\n" or " " <= character <= "~", (name, character))


class Names(unittest.TestCase):
    def test_l2_imports_stand_at_the_top(self):
        for name in file_names():
            tree = tree_of(name)
            many = len([node for node in ast.walk(tree) if isinstance(node, (ast.Import, ast.ImportFrom))])
            body = [node for node in tree.body if not isinstance(node, ast.Expr)]
            for node in body[:many]:
                self.assertIsInstance(node, ast.ImportFrom, name)

    def test_l2_imports(self):
        for name, node in nodes(ast.ImportFrom):
            self.assertEqual([part.asname for part in node.names], [None] * len(node.names), name)
            for part in node.names:
                if node.module in LIBRARY:
                    self.assertIn(part.name, LIBRARY[node.module], name)
                else:
                    package, module = node.module.split(".")
                    self.assertEqual(package, "tablemates", name)
                    self.assertIn(part.name, top_names(tree_of(module + ".py")), name)

    def test_l2_imports_are_used(self):
        for name in file_names():
            used = [node.id for node in ast.walk(tree_of(name)) if isinstance(node, ast.Name)]
            for node in tree_of(name).body:
                if isinstance(node, ast.ImportFrom):
                    for part in node.names:
                        self.assertIn(part.name, used, name)

    def test_l12_l17_names(self):
        for name in file_names():
            for word in bound_names(tree_of(name)):
                if word not in SPECIAL:
                    self.assertRegex(word, r"^(_|_?[A-Za-z][A-Za-z0-9_]*)$", name)
                    self.assertNotIn(word, BARRED, name)

    def test_l15_one_binding(self):
        for name in file_names():
            top = top_names(tree_of(name)) + imported_names(tree_of(name))
            self.assertEqual(len(top), len(set(top)), name)
            classes = [node.name for node in tree_of(name).body if isinstance(node, ast.ClassDef)]
            for word in local_names(tree_of(name)):
                self.assertNotIn(word, imported_names(tree_of(name)) + classes, (name, word))

    def test_l17_words(self):
        for name in file_names():
            code = re.sub(r"#.*", "", text_of(name))
            code = re.sub(r'"""[^"]*"""', "", code)
            self.assertIsNone(BARRED_WORDS.search(code), name)


class Statements(unittest.TestCase):
    def test_l3_module_level(self):
        for name in file_names():
            for node in tree_of(name).body:
                if isinstance(node, ast.Expr):
                    self.assertIsInstance(node.value, ast.Constant, name)
                else:
                    self.assertIsInstance(node, (ast.ImportFrom, ast.FunctionDef, ast.ClassDef, ast.Assign), name)
                if isinstance(node, ast.Assign):
                    self.assertEqual([type(target) for target in node.targets], [ast.Name], name)
                    for part in ast.walk(node.value):
                        self.assertNotIsInstance(part, (ast.Call, ast.ListComp, ast.Lambda, ast.Set), name)

    def test_l6_statements(self):
        for name, node in nodes(ast.stmt):
            self.assertIsInstance(node, STATEMENTS, (name, node.lineno))

    def test_l4_no_decorators(self):
        for name, node in nodes(ast.FunctionDef, ast.ClassDef):
            self.assertEqual(node.decorator_list, [], name)

    def test_l5_double_underscore_methods(self):
        for name, node in nodes(ast.FunctionDef):
            if node.name.startswith("__"):
                self.assertIn(node.name, SPECIAL, name)

    def test_l19_errors_are_created_on_the_spot(self):
        for name, node in nodes(ast.Raise):
            if node.exc is not None:
                self.assertIsInstance(node.exc, ast.Call, (name, node.lineno))
                self.assertIsInstance(node.exc.func, ast.Name, (name, node.lineno))


class Expressions(unittest.TestCase):
    def test_l7_no_floats_and_no_true_division(self):
        for name, node in nodes(ast.Constant):
            self.assertNotIsInstance(node.value, (float, complex, bytes), (name, node.lineno))
        self.assertEqual(nodes(ast.Div, ast.GeneratorExp, ast.Yield, ast.Await, ast.NamedExpr), [])

    def test_l8_builtins(self):
        for name, node in nodes(ast.Call):
            if isinstance(node.func, ast.Name):
                tree = tree_of(name)
                known = top_names(tree) + imported_names(tree) + local_names(tree) + BUILTINS
                self.assertIn(node.func.id, known, (name, node.lineno))

    def test_l20_is_only_for_constants(self):
        for name, node in nodes(ast.Compare):
            for sign, right in zip(node.ops, node.comparators):
                if isinstance(sign, (ast.Is, ast.IsNot)):
                    self.assertIsInstance(right, ast.Constant, (name, node.lineno))

    def test_l25_methods(self):
        own = defined_in_package()
        for name, node in nodes(ast.Call):
            if isinstance(node.func, ast.Attribute):
                self.assertIn(node.func.attr, METHODS + own, (name, node.lineno))

    def test_l27_exponents_are_literals(self):
        for name, node in nodes(ast.BinOp):
            if isinstance(node.op, ast.Pow):
                self.assertIsInstance(node.right, ast.Constant, (name, node.lineno))

    def test_l27_no_percent_sign_in_strings(self):
        for name, node in nodes(ast.Constant):
            if isinstance(node.value, str):
                self.assertNotIn("%", node.value, (name, node.lineno))
                self.assertNotRegex(node.value, r"\._{1,2}$")


if __name__ == "__main__":
    unittest.main()
