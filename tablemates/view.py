"""Views: a sheet as it is while some of its edits count as in force."""

from tablemates.edit import ordered
from tablemates.live import live_lines
from tablemates.orders import line_order
from tablemates.wire import AXES


class View:
    """A beginning, edits, and the ids of those that count as in force."""

    def __init__(self, begin, edits, forced):
        self.begin = begin
        self.edits = ordered(edits)
        self.forced = list(forced)
        self._orders = {axis: line_order(begin, edits, axis) for axis in AXES}
        self._lines = {axis: live_lines(begin, edits, axis, forced) for axis in AXES}
        self._indexes = {}
        for axis in AXES:
            self._indexes[axis] = {line: at for at, line in enumerate(self._lines[axis])}

    def order(self, axis):
        """The list of all lines of the axis."""
        return list(self._orders[axis])

    def live(self, axis):
        """The list of the live lines of the axis."""
        return list(self._lines[axis])

    def index(self, axis, line):
        """The index of a live line, None for any other one."""
        return self._indexes[axis].get(line)
