"""Basics: errors (c4), order of modules (c6), the bounds of c2, and arguments that stay as they are."""

import ast
import copy
import os
import unittest

from tablemates import errors

ROOT = os.path.dirname(os.path.dirname(os.path.abspath(__file__)))
PACKAGE = os.path.join(ROOT, "tablemates")

# The list of c6, one module behind the other.
MODULES = """errors fractions decimals tokens trees grammar writing contents versions edit wire effects
targets orders live view members keeping writes grids reading evaluation rings ledgers states actions
checking sheet plain looking differences tales paper judge records logs digests""".split()

FIELDS = {
    "FormulaFault": ("place", "word"),
    "OutOfRange": ("word",),
    "TooManyEdits": (),
    "TooManyLines": (),
    "NothingToUndo": (),
    "NothingToRedo": (),
    "InvalidBytes": ("at",),
    "OtherTable": (),
    "ClashingEdits": ("id",),
    "MissingEdits": ("id",),
    "ImpossibleEdit": ("id",),
    "UnknownVersion": (),
    "UnknownName": ("word",),
    "WrongPaper": ("at",),
    "InvalidFile": ("at",),
}


def module_names():
    names = [name for name in os.listdir(PACKAGE) if name != "__pycache__"]
    return sorted(name[:-3] for name in names if name.endswith(".py") and name != "__init__.py")


def imported_modules(name):
    with open(os.path.join(PACKAGE, name + ".py"), encoding="utf-8") as file:
        found = ast.parse(file.read())
    return [node.module for node in ast.walk(found) if isinstance(node, ast.ImportFrom)]


class Errors(unittest.TestCase):
    def test_c4_base_class(self):
        self.assertEqual(errors.TableError.__bases__, (ValueError,))

    def test_c4_each_error_is_directly_below_the_base_class(self):
        for name in FIELDS:
            self.assertEqual(getattr(errors, name).__bases__, (errors.TableError,), name)

    def test_c4_there_are_no_other_errors(self):
        found = [name for name, value in vars(errors).items() if isinstance(value, type)]
        self.assertEqual(sorted(found), sorted(list(FIELDS) + ["TableError"]))

    def test_c4_fields_are_given_in_order(self):
        values = {"place": 7, "word": "total", "at": 12, "id": (2, 3)}
        for name, fields in FIELDS.items():
            made = getattr(errors, name)(*[values[field] for field in fields])
            self.assertEqual(vars(made), {field: values[field] for field in fields}, name)

    def test_c4_wrong_number_of_arguments(self):
        for name, fields in FIELDS.items():
            if fields:
                with self.assertRaises(TypeError):
                    getattr(errors, name)()

    def test_c4_each_error_is_caught_as_a_table_error_and_as_a_value_error(self):
        for name, fields in FIELDS.items():
            for base in (errors.TableError, ValueError):
                with self.assertRaises(base):
                    raise getattr(errors, name)(*[1 for _ in fields])


class Modules(unittest.TestCase):
    def test_c6_only_the_files_of_the_list(self):
        for name in module_names():
            self.assertIn(name, MODULES)

    def test_c6_each_module_imports_only_those_above_it(self):
        for name in module_names():
            above = ["tablemates." + other for other in MODULES[:MODULES.index(name)]]
            for other in imported_modules(name):
                if other not in ("math", "heapq"):
                    self.assertIn(other, above, name)

    def test_c6_package_binds_no_names(self):
        with open(os.path.join(PACKAGE, "__init__.py"), encoding="utf-8") as file:
            found = ast.parse(file.read())
        self.assertEqual([type(part) for part in found.body], [ast.Expr])


class Unchanged(unittest.TestCase):
    """No function modifies its arguments, and what it returns is new each time."""

    def check(self, function, *arguments):
        before = copy.deepcopy(arguments)
        first = function(*arguments)
        self.assertEqual(arguments, before)
        second = function(*arguments)
        self.assertEqual(first, second)
        if isinstance(first, list):
            self.assertIsNot(first, second)
            first.append("more")
            self.assertEqual(function(*arguments), second)

    def test_tokens_and_grammar(self):
        from tablemates.grammar import begins
        from tablemates.tokens import tokens
        self.check(tokens, "sum(A1) + 2")
        self.check(begins, [("word", "sum"), ("sign", "(")])

    def test_trees(self):
        from tablemates.trees import areas_of, named_cells
        call = ("call", "sum", (("block", 0, 0, 1, 1), ("name", "total")))
        self.check(areas_of, call)
        self.check(areas_of, ("op", "+", call, call))
        self.check(named_cells, ("op", "+", ("cell", 0, 0), ("cell", 1, 0)))


if __name__ == "__main__":
    unittest.main()
