"""How the contents of cells are read from strings, and written."""

from tablemates.decimals import read_number, write_number
from tablemates.grammar import read_formula
from tablemates.writing import write_formula


def read_content(text, rows, columns):
    """The placed content of a string for a grid of this size; raises FormulaFault."""
    if text == "":
        return ("blank",)
    if text.startswith("="):
        return ("formula", read_formula(text[1:], rows, columns))
    x = read_number(text)
    return ("text", text) if x is None else ("number", x)


def write_content(content):
    """The string of a placed content."""
    if content[0] == "formula":
        return "=" + write_formula(content[1])
    if content[0] == "number":
        return write_number(content[1])
    if content[0] == "text":
        return content[1]
    return ""
