"""What the tests of several calls share."""

import copy
import unittest

from widewhole.wholes import op, order

TOP = 2 ** 128 - 1
HALF = 2 ** 127
MIXED = (0x0123456789ABCDEFFEDCBA9876543210, 0xF0E1D2C3B4A5968778695A4B3C2D1E0F)


def row_of_bytes(number, size):
    """How many bytes they are, and the number's bytes, the lowest first; a number below 0 as its 128 bits."""
    return [size] + list((number if number >= 0 else number + 2 ** 128).to_bytes(size, "little"))


class CallCase(unittest.TestCase):
    def check_form(self, call, arguments):
        """A list of whole numbers, never True or False."""
        got = call(*arguments)
        self.assertIs(type(got), list, arguments)
        self.assertGreater(len(got), 0, arguments)
        self.assertTrue(all(type(number) is int for number in got), arguments)

    def check_nothing_is_kept(self, call, rows):
        """The same answers in another order, after other calls, and after the first answers were spoilt."""
        handed_in = copy.deepcopy(rows)
        first = [call(*arguments) for arguments in rows]
        kept = [list(got) for got in first]
        for got in first:
            got[0] = 99
            got.append(7)
        op(6, 1, 0)
        order(1, 2, 0)
        again = [call(*arguments) for arguments in reversed(rows)]
        self.assertEqual(again[::-1], kept)
        self.assertEqual(rows, handed_in)
