"""Promise 3: bits, by what."""

import unittest

from support import HALF, MIXED, TOP, CallCase
from widewhole.wholes import bits

# Each row: a, how many bits are 1, how many zeros stand before the first 1, how many behind the last, whether odd.
ROWS = [
    (0, 0, 128, 128, 0),
    (1, 1, 127, 0, 1),
    (2, 1, 126, 1, 1),
    (3, 2, 126, 0, 0),
    (7, 3, 125, 0, 1),
    (12, 2, 124, 2, 0),
    (2 ** 63 - 1, 63, 65, 0, 1),
    (2 ** 63, 1, 64, 63, 1),
    (2 ** 64 - 1, 64, 64, 0, 0),
    (2 ** 64, 1, 63, 64, 1),
    (2 ** 64 + 1, 2, 63, 0, 0),
    (2 ** 77, 1, 50, 77, 1),
    (HALF - 1, 127, 1, 0, 1),
    (HALF, 1, 0, 127, 1),
    (HALF + 1, 2, 0, 0, 0),
    (TOP - 1, 127, 0, 1, 1),
    (TOP, 128, 0, 0, 0),
    (0x00F00000000000000000000000A30000, 8, 8, 16, 0),
    (0x00000000000000070000000000000000, 3, 61, 64, 1),
    (0x0123456789ABCDEFFEDCBA9876543210, 64, 7, 4, 0),
    (0xF0E1D2C3B4A5968778695A4B3C2D1E0F, 64, 0, 0, 0),
]
OTHERS = (-1, -2, -4, 4, 5, 8, 128, 256, 2 ** 31 - 1, -2 ** 31)


class Bits(CallCase):
    def test_rows(self):
        for a, ones, before, behind, odd in ROWS:
            self.assertEqual(bits(a, 0), [ones], a)
            self.assertEqual(bits(a, 1), [before], a)
            self.assertEqual(bits(a, 2), [behind], a)
            self.assertEqual(bits(a, 3), [odd], a)

    def test_each_single_bit(self):
        for k in range(128):
            self.assertEqual([bits(2 ** k, what) for what in range(4)], [[1], [127 - k], [k], [1]], k)

    def test_each_run_of_ones_from_either_end(self):
        for k in range(1, 129):
            low = 2 ** k - 1
            high = low << (128 - k)
            self.assertEqual([bits(low, what) for what in range(4)], [[k], [128 - k], [0], [k % 2]], k)
            self.assertEqual([bits(high, what) for what in range(4)], [[k], [0], [128 - k], [k % 2]], k)

    def test_mixed_bits_against_their_text(self):
        for start in MIXED:
            for k in range(1, 100):
                a = start * (2 * k + 1) % 2 ** 128
                text = f"{a:0128b}"
                ones = text.count("1")
                self.assertEqual(bits(a, 0), [ones])
                self.assertEqual(bits(a, 1), [text.index("1")])
                self.assertEqual(bits(a, 2), [127 - text.rindex("1")])
                self.assertEqual(bits(a, 3), [ones % 2])

    def test_any_other_what(self):
        for what in OTHERS:
            for row in ROWS:
                self.assertEqual(bits(row[0], what), [-1], (row[0], what))

    def test_form_and_nothing_kept(self):
        calls = [(row[0], what) for row in ROWS for what in (0, 1, 2, 3, 4, -1)]
        for call in calls:
            self.check_form(bits, call)
        self.check_nothing_is_kept(bits, calls)


if __name__ == "__main__":
    unittest.main()
