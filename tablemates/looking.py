"""What was shown at earlier versions, and what would be shown without some persons."""

from tablemates.edit import PERSONS, ordered
from tablemates.effects import in_force, in_force_without
from tablemates.errors import UnknownVersion
from tablemates.states import grid_of
from tablemates.versions import counts, includes, nothing
from tablemates.view import View


def _seen_by(edits):
    """The dict from the ids of the edits to their versions."""
    return {edit_id: seen for edit_id, seen, _ in edits}


def _can_follow(seen, edit_id, version):
    """Whether an edit of this id is there, and has seen no more than the version counts."""
    return edit_id in seen and includes(version, seen[edit_id])


def known(edits, version):
    """Whether a copy can have held just the edits that the version counts."""
    seen = _seen_by(edits)
    for person in PERSONS:
        for number in range(1, version[person - 1] + 1):
            if not _can_follow(seen, (person, number), version):
                return False
    return True


def versions(edits):
    """The sorted list of all known versions."""
    seen = _seen_by(edits)
    found = {nothing(): True}
    waiting = [nothing()]
    # Each known version is reached from that of no edits by one edit after the other, in their order.
    while waiting != []:
        version = waiting.pop()
        for person in PERSONS:
            number = version[person - 1] + 1
            later = version[:person - 1] + (number,) + version[person:]
            if later not in found and _can_follow(seen, (person, number), version):
                found[later] = True
                waiting.append(later)
    return sorted(found)


def at(edits, version):
    """The list, in the order, of the edits that a known version counts; raises UnknownVersion."""
    if not known(edits, version):
        raise UnknownVersion()
    return [edit for edit in ordered(edits) if counts(version, edit[0])]


def view_at(begin, edits, version):
    """The view of what was held at a known version; raises UnknownVersion."""
    held = at(edits, version)
    return View(begin, held, in_force(held))


def grid_at(begin, edits, version):
    """The grid that was shown at a known version; raises UnknownVersion."""
    return grid_of(view_at(begin, edits, version))


def grid_without(begin, edits, persons):
    """The grid that would be shown if no edit of the persons in the tuple were in force."""
    return grid_of(View(begin, edits, in_force_without(edits, persons)))
