"""The interface: the names of each module with their arguments, and where they are defined."""

import importlib
import inspect
import unittest

FUNCTIONS = {
    "fractions": "fraction(n, d); in_range(x); add(x, y); subtract(x, y); multiply(x, y); divide(x, y); less(x, y)",
    "decimals": "read_decimal(text); read_number(text); has_decimal(x); write_number(x); show(x); read_shown(text)",
    "tokens": "tokens(text); read_address(text); write_address(row, column)",
    "trees": "size(tree); named_cells(tree); areas_of(tree); mapped(tree, cell, area); is_name_word(text)",
    "grammar": "begins(tokens); read_formula(text, rows, columns)",
    "writing": "write_formula(tree)",
    "contents": "read_content(text, rows, columns); write_content(content)",
    "versions": "nothing(); counts(version, edit_id); includes(version, other); joined(version, other)",
    "edit": "stamp(edit); has_seen(edit, other); ordered(edits); version_of(edits); closed(edits)",
    "wire": "number_bytes(n); write_update(begin, edits); read_update(data)",
    "effects": "in_force(edits); in_force_without(edits, persons)",
    "targets": "undo_target(edits, person); redo_target(edits, person)",
    "orders": "line_order(begin, edits, axis)",
    "live": "live_lines(begin, edits, axis, forced); neighbours(lines, index)",
    "members": "members(view, seen, axis, first, last); segments(view, seen, axis, first, last)",
    "keeping": """keep_tree(view, tree); keep_content(view, content); place_tree(view, seen, tree);
        place_content(view, seen, content); place_blocks(view, seen, blocks);
        moved_tree(tree, down, right, rows, columns); moved_content(content, down, right, rows, columns)""",
    "writes": "shown_writes(view, row, column); shown_names(view, word); words_told(view)",
    "grids": "same(grid, other)",
    "reading": "blocks_of(grid, area); cells_read(grid, cell)",
    "evaluation": "evaluate(grid, tree, known); value_from(grid, cell, known)",
    "rings": "ring_cells(grid); ring_of(grid, cell); values_of(grid)",
    "states": "grid_of(view)",
    "actions": """insert_action(view, axis, index); delete_action(view, axis, index); write_action(view, cell, texts);
        copy_action(view, block, cell); name_action(view, word, blocks); undo_action(edits, person);
        redo_action(edits, person)""",
    "checking": "possible(begin, edits, edit); check(begin, edits)",
    "looking": """known(edits, version); versions(edits); at(edits, version); grid_at(begin, edits, version);
        grid_without(begin, edits, persons)""",
    "differences": "difference(begin, edits, first, second); led(grid, records)",
    "tales": "tale(begin, edits, cell); authors(begin, edits)",
    "paper": "paper_of(grid); value_text(value)",
    "judge": "judge(paper); grid_of(paper)",
    "records": "sum_of(data); record_of(body); read_record(data, at)",
    "logs": "opened(data, person)",
    "digests": "digest(sheet); compare(sheet, data)",
}

CLASSES = {
    ("view", "View"): "__init__(self, begin, edits, forced); order(self, axis); live(self, axis); "
                      "index(self, axis, line)",
    ("grids", "Grid"): "__init__(self, rows, columns); put(self, cell, shown); shown(self, cell); "
                       "name(self, word, areas); unname(self, word); areas(self, word); cells(self); words(self); "
                       "copy(self)",
    ("ledgers", "Ledger"): "__init__(self, grid); put(self, cell, shown); name(self, word, areas); "
                           "unname(self, word); value(self, cell); all_values(self); counted(self)",
    ("sheet", "Sheet"): "__init__(self, person, rows, columns); person(self); begin(self); edits(self); version(self); "
                        "copy_for(self, person); insert(self, axis, index); delete(self, axis, index); "
                        "write(self, cell, text); write_block(self, cell, texts); copy(self, block, cell); "
                        "name(self, word, blocks); undo(self); redo(self); grid(self); all_values(self); "
                        "texts(self, cell); writers(self, cell); update(self, version); take(self, data)",
    ("plain", "Plain"): "__init__(self, rows, columns); insert(self, axis, index); delete(self, axis, index); "
                        "write(self, cell, text); write_block(self, cell, texts); copy(self, block, cell); "
                        "name(self, word, blocks); grid(self)",
    ("logs", "Log"): "__init__(self, sheet); keep(self, sheet); data(self)",
}


def told(text):
    """The pairs of a name and its arguments."""
    for part in text.split(";"):
        name, arguments = part.strip()[:-1].split("(")
        yield name, [argument for argument in arguments.split(", ") if argument]


class Interface(unittest.TestCase):
    def check(self, function, module, arguments):
        self.assertTrue(inspect.isfunction(function))
        self.assertEqual(function.__module__, "tablemates." + module)
        parameters = inspect.signature(function).parameters.values()
        self.assertEqual([parameter.name for parameter in parameters], arguments)
        for parameter in parameters:
            self.assertEqual(parameter.kind, inspect.Parameter.POSITIONAL_OR_KEYWORD)
            self.assertIs(parameter.default, inspect.Parameter.empty)

    def test_functions(self):
        for module, text in FUNCTIONS.items():
            there = importlib.import_module("tablemates." + module)
            for name, arguments in told(text):
                self.check(vars(there)[name], module, arguments)

    def test_methods_stand_in_the_class_itself(self):
        for (module, name), text in CLASSES.items():
            found = vars(importlib.import_module("tablemates." + module))[name]
            self.assertEqual(found.__module__, "tablemates." + module)
            for method, arguments in told(text):
                self.check(vars(found)[method], module, arguments)


if __name__ == "__main__":
    unittest.main()
