"""The examples of the interface, as they stand there, and those of README.md."""

import doctest
import os
import unittest

README = os.path.join(os.path.dirname(os.path.dirname(os.path.abspath(__file__))), "README.md")

FRACTIONS = """
>>> from tablemates.fractions import add, divide, fraction
>>> fraction(6, -4)
(-3, 2)
>>> add((1, 2), (-1, 2))
(0, 1)
>>> divide((3, 2), (-1, 4))
(-6, 1)
"""

DECIMALS = """
>>> from tablemates.decimals import read_number, show, write_number
>>> read_number("007.50")
(15, 2)
>>> write_number((-25, 2))
'-12.5'
>>> show((-15, 2))
'-15/2'
"""

TOKENS = """
>>> from tablemates.tokens import read_address, tokens
>>> tokens("sum(A1:B2)-1.5x")
[('word', 'sum'), ('sign', '('), ('address', 'A1'), ('sign', ':'), ('address', 'B2'), ('sign', ')'), ('sign', '-'), ('decimal', '1.5'), ('word', 'x')]
>>> read_address("AA10")
(9, 26)
"""

GRAMMAR = """
>>> from tablemates.grammar import read_formula
>>> read_formula("-(A1 + 2) * sum(B2:A1, total)", 2, 2)
('op', '*', ('neg', ('op', '+', ('cell', 0, 0), ('num', (2, 1)))), ('call', 'sum', (('block', 0, 0, 1, 1), ('name', 'total'))))
"""

EDIT = """
>>> from tablemates.edit import closed, stamp
>>> stamp(((2, 1), (3, 0, 0, 0), ("delete", "row", (0, 1))))
4
>>> closed([((2, 1), (3, 0, 0, 0), ("delete", "row", (0, 1)))])
False
"""

WRITING = """
>>> from tablemates.writing import write_formula
>>> write_formula(("op", "-", ("cell", 0, 0), ("op", "-", ("cell", 0, 1), ("neg", ("num", (1, 2))))))
'A1 - (B1 - -0.5)'
"""

WIRE = """
>>> from tablemates.wire import write_update
>>> write_update((2, 2), [((1, 1), (0, 0, 0, 0), ("write", (((0, 1), (0, 2), ("number", (-3, 2))),)))])
[2, 2, 1, 1, 1, 0, 0, 0, 0, 2, 1, 0, 1, 0, 2, 2, 5, 2]
"""

LIVE = """
>>> from tablemates.orders import line_order
>>> one = ((1, 1), (0, 0, 0, 0), ("insert", "row", (0, 1), (0, 2)))
>>> two = ((2, 1), (0, 0, 0, 0), ("insert", "row", (0, 1), (0, 2)))
>>> line_order((2, 0), [one, two], "row")
[(0, 1), (2, 1), (1, 1), (0, 2)]
"""

EVALUATION = """
>>> from tablemates.evaluation import evaluate
>>> from tablemates.grammar import read_formula
>>> from tablemates.grids import Grid
>>> evaluate(Grid(2, 2), read_formula("sum(A1:B2) / 4", 2, 2), {(0, 0): ("number", (1, 1)), (1, 1): ("text", "x")})
('number', (1, 4))
"""

SHEET = """
>>> from tablemates.sheet import Sheet
>>> one = Sheet(1, 2, 2)
>>> one.write_block((0, 0), [["3", "= A1 * 2"]])
(1, 1)
>>> two = one.copy_for(2)
>>> two.insert("row", 0)
(2, 1)
>>> one.write((0, 0), "5")
(1, 2)
>>> two.write((1, 0), "4")
(2, 2)
>>> one.take(two.update(one.version()))
2
>>> one.texts((1, 0)), one.texts((1, 1))
(['5', '4'], ['=A2 * 2'])
>>> one.all_values()[(1, 1)]
('fault', 'clash')
"""

JUDGE = """
>>> from tablemates.judge import judge
>>> judge((1, 2, [], [], [(0, 0, ("2",), "2"), (0, 1, ("=A1 * 3",), "6")]))
>>> judge((1, 2, [], [], [(0, 1, ("=A1 * 3",), "6"), (0, 0, ("2",), "2")]))
(3, 0)
"""


class Examples(unittest.TestCase):
    def check(self, text):
        found = doctest.DocTestParser().get_doctest(text, {}, "example", None, 0)
        self.assertGreater(len(found.examples), 1)
        told = []
        doctest.DocTestRunner(verbose=False).run(found, out=told.append)
        self.assertEqual("".join(told), "")

    def test_fractions(self):
        self.check(FRACTIONS)

    def test_decimals(self):
        self.check(DECIMALS)

    def test_tokens(self):
        self.check(TOKENS)

    def test_grammar(self):
        self.check(GRAMMAR)

    def test_writing(self):
        self.check(WRITING)

    def test_edit(self):
        self.check(EDIT)

    def test_wire(self):
        self.check(WIRE)

    def test_live(self):
        self.check(LIVE)

    def test_evaluation(self):
        self.check(EVALUATION)

    def test_sheet(self):
        self.check(SHEET)

    def test_judge(self):
        self.check(JUDGE)

    def test_readme(self):
        with open(README, encoding="utf-8") as file:
            self.check(file.read())


if __name__ == "__main__":
    unittest.main()
