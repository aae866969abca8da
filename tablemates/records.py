"""Records: bytes with their length and their sum."""

from tablemates.errors import InvalidBytes
from tablemates.wire import Reader, number_bytes

MODULUS = 65521


def sum_of(data):
    """The sum of bytes."""
    total = 1
    for byte in data:
        total = (31 * total + byte + 1) % MODULUS
    return total


def record_of(body):
    """The record of bytes: their length, themselves, their sum."""
    return number_bytes(len(body)) + list(body) + number_bytes(sum_of(body))


def read_record(data, at):
    """The tuple (body, index behind it) of the record at an index, None if there is none that is whole."""
    reader = Reader(data)
    reader.at = at
    try:
        many = reader.integer()
        body = data[reader.at:reader.at + many]
        reader.at = reader.at + many
        told = reader.integer()
    except InvalidBytes:
        return None
    return (body, reader.at) if told == sum_of(body) else None
