"""Promise 6: double."""

import struct
import unittest

from support import HALF, MIXED, TOP, CallCase
from widewhole.wholes import double

SIGN = 2 ** 63


def power(exponent, fraction=0):
    """The bits of the double 2^exponent whose fraction is told as a number of 52 bits."""
    return ((1023 + exponent) << 52) + fraction


def bits_of_float(number):
    return struct.unpack("<Q", struct.pack("<d", float(number)))[0]


class Double(CallCase):
    def check(self, number, wanted):
        """A number below 2^127 is the same signed and plain, and its opposite has the sign alone besides."""
        self.assertEqual(double(number, 0), [wanted], number)
        self.assertEqual(double(number, 1), [wanted], number)
        if number != 0:
            self.assertEqual(double(2 ** 128 - number, 0), [wanted + SIGN], -number)

    def test_zero_is_plus_zero(self):
        self.check(0, 0)

    def test_small_numbers(self):
        self.check(1, 0x3FF0000000000000)
        self.check(2, 0x4000000000000000)
        self.check(3, 0x4008000000000000)
        self.check(10, 0x4024000000000000)
        self.check(1000, 0x408F400000000000)

    def test_around_two_to_the_53(self):
        self.check(2 ** 53 - 2, 0x433FFFFFFFFFFFFE)
        self.check(2 ** 53 - 1, 0x433FFFFFFFFFFFFF)
        self.check(2 ** 53, 0x4340000000000000)
        self.check(2 ** 53 + 1, 0x4340000000000000)
        self.check(2 ** 53 + 2, 0x4340000000000001)
        self.check(2 ** 53 + 3, 0x4340000000000002)
        self.check(2 ** 53 + 4, 0x4340000000000002)
        self.check(2 ** 53 + 5, 0x4340000000000002)

    def test_the_middle_of_two_doubles(self):
        for exponent in (54, 63, 64, 65, 90, 100, 126):
            step = 2 ** (exponent - 52)
            for fraction in (0, 1, 2, 3, 2 ** 51 - 1, 2 ** 51, 2 ** 52 - 3, 2 ** 52 - 2):
                middle = 2 ** exponent + fraction * step + step // 2
                below = power(exponent, fraction)
                self.check(middle, below if fraction % 2 == 0 else below + 1)
                self.check(middle - 1, below)
                self.check(middle + 1, below + 1)
                self.check(middle - step // 2, below)
                self.check(middle + step // 2, below + 1)

    def test_rounding_that_carries_to_the_next_power_of_two(self):
        for exponent in range(54, 128):
            self.check(2 ** exponent - 1, power(exponent))
            half_step = 2 ** (exponent - 54)
            self.check(2 ** exponent - half_step, power(exponent))
            self.check(2 ** exponent - half_step - 1, power(exponent) - 1)
            self.check(2 ** exponent - 2 * half_step, power(exponent) - 1)

    def test_every_power_of_two(self):
        for exponent in range(127):
            self.check(2 ** exponent, power(exponent))

    def test_around_two_to_the_127(self):
        self.check(HALF - 1, 0x47E0000000000000)
        self.assertEqual(double(HALF, 0), [0xC7E0000000000000])
        self.assertEqual(double(HALF, 1), [0x47E0000000000000])
        self.assertEqual(double(HALF + 1, 0), [0xC7E0000000000000])
        self.assertEqual(double(HALF + 1, 1), [0x47E0000000000000])
        self.assertEqual(double(HALF + 2 ** 74, 1), [0x47E0000000000000])
        self.assertEqual(double(HALF + 2 ** 74 + 1, 1), [0x47E0000000000001])
        self.assertEqual(double(HALF + 2 ** 75, 1), [0x47E0000000000001])

    def test_the_greatest(self):
        self.assertEqual(double(TOP, 0), [0xBFF0000000000000])
        self.assertEqual(double(TOP, 1), [0x47F0000000000000])
        self.assertEqual(double(TOP - 1, 0), [0xC000000000000000])
        self.assertEqual(double(TOP - 2 ** 74, 1), [0x47EFFFFFFFFFFFFF])
        self.assertEqual(double(2 ** 128 - 2 ** 74, 1), [0x47F0000000000000])
        self.assertEqual(double(2 ** 128 - 2 ** 75, 1), [0x47EFFFFFFFFFFFFF])

    def test_against_the_machine(self):
        for start in MIXED + (TOP // 3, TOP // 7):
            for cut in range(128):
                for a in (start >> cut, TOP - (start >> cut)):
                    self.assertEqual(double(a, 1), [bits_of_float(a)], a)
                    signed = a - 2 ** 128 if a >= HALF else a
                    self.assertEqual(double(a, 0), [bits_of_float(signed)], a)

    def test_form_and_nothing_kept(self):
        numbers = (0, 1, 2, 2 ** 53, 2 ** 53 + 1, 2 ** 53 + 3, HALF - 1, HALF, HALF + 1, TOP - 1, TOP) + MIXED
        calls = [(a, plain) for a in numbers for plain in (0, 1)]
        for call in calls:
            self.check_form(double, call)
            self.assertEqual(len(double(*call)), 1)
        self.check_nothing_is_kept(double, calls)


if __name__ == "__main__":
    unittest.main()
