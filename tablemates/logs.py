"""Logs: what a copy came to hold, as records that may be cut anywhere behind the first one."""

from tablemates.errors import InvalidBytes, InvalidFile, TableError
from tablemates.records import read_record, record_of
from tablemates.sheet import Sheet
from tablemates.versions import counts, nothing
from tablemates.wire import read_update, write_update


class Log:
    """The log of a copy."""

    def __init__(self, sheet):
        self._bytes = record_of(write_update(sheet.begin(), []))
        self._version = nothing()
        self.keep(sheet)

    def keep(self, sheet):
        """Appends a record with the edits of the copy that the log does not have, if there are any."""
        if sheet.version() != self._version:
            self._bytes = self._bytes + record_of(sheet.update(self._version))
            self._version = sheet.version()

    def data(self):
        """The bytes of the log."""
        return list(self._bytes)


def _beginning(record):
    """The beginning that a first record tells, None if it is none."""
    if record is None:
        return None
    try:
        begin, edits = read_update(record[0])
    except InvalidBytes:
        return None
    return begin if edits == [] else None


def _takes(sheet, body):
    """Whether the copy takes the update of a record, all of whose edits must be new."""
    try:
        edits = read_update(body)[1]
        if any([counts(sheet.version(), edit[0]) for edit in edits]):
            return False
        sheet.take(body)
    except TableError:
        return False
    return True


def opened(data, person):
    """The tuple (sheet, index) of the copy that a log gives and the index behind the last record that was taken."""
    first = read_record(data, 0)
    begin = _beginning(first)
    if begin is None:
        raise InvalidFile(0)
    sheet = Sheet(person, begin[0], begin[1])
    end = first[1]
    record = read_record(data, end)
    while record is not None and _takes(sheet, record[0]):
        end = record[1]
        record = read_record(data, end)
    return (sheet, end)
