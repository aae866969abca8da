"""The errors of the program, each directly below one base class."""


class TableError(ValueError):
    """The base class of all errors of the program."""


class FormulaFault(TableError):
    """A string is not read as a formula: the place of the token, and what is wrong there."""

    def __init__(self, place, word):
        self.place = place
        self.word = word


class OutOfRange(TableError):
    """An argument is not one of those that are allowed: the name of the parameter."""

    def __init__(self, word):
        self.word = word


class TooManyEdits(TableError):
    """A copy holds as many edits as it may."""


class TooManyLines(TableError):
    """As many rows or columns are live as may be."""


class NothingToUndo(TableError):
    """A person has no edit that can be undone."""


class NothingToRedo(TableError):
    """A person has no undo that can be taken back."""


class InvalidBytes(TableError):
    """Bytes are not what they should be: the place of the fault."""

    def __init__(self, at):
        self.at = at


class OtherTable(TableError):
    """What is to be taken has another beginning."""


class ClashingEdits(TableError):
    """One id is told of two edits."""

    def __init__(self, edit_id):
        self.id = edit_id


class MissingEdits(TableError):
    """An edit has seen what is not there."""

    def __init__(self, edit_id):
        self.id = edit_id


class ImpossibleEdit(TableError):
    """An edit could not be made on what it has seen."""

    def __init__(self, edit_id):
        self.id = edit_id


class UnknownVersion(TableError):
    """No copy can have been at this version."""


class UnknownName(TableError):
    """A word is no name of the grid."""

    def __init__(self, word):
        self.word = word


class WrongPaper(TableError):
    """A paper is not right: the index of the fault."""

    def __init__(self, at):
        self.at = at


class InvalidFile(TableError):
    """Bytes are no log: the place of the fault."""

    def __init__(self, at):
        self.at = at
