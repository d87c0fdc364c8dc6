"""Promise 7: whole."""

import math
import struct
import unittest

from support import HALF, MIXED, TOP, CallCase, row_of_bytes
from widewhole.wholes import double, whole

SIGN = 2 ** 63
ZERO = 0
LEAST = 1
GREATEST_BELOW_NORMAL = 2 ** 52 - 1
LEAST_NORMAL = 2 ** 52
INFINITE = 0x7FF0000000000000
AT_127 = 0x47E0000000000000
AT_128 = 0x47F0000000000000
NOT_NUMBERS = (INFINITE, INFINITE + 1, INFINITE + 2 ** 51 - 1, INFINITE + 2 ** 51, INFINITE + 2 ** 51 + 1, SIGN - 1)


def bits_of_float(number):
    return struct.unpack("<Q", struct.pack("<d", number))[0]


def float_of_bits(x):
    return struct.unpack("<d", struct.pack("<Q", x))[0]


class Whole(CallCase):
    def check(self, x, plain, number):
        self.assertEqual(whole(x, plain), [0] + row_of_bytes(number, 16), (hex(x), plain))

    def check_both(self, x, number):
        self.check(x, 0, number)
        self.check(x, 1, number)

    def check_refused(self, x, plain):
        self.assertEqual(whole(x, plain), [-1], (hex(x), plain))

    def test_whole_lists(self):
        zeros = [0] * 16
        ones = [255] * 16
        self.assertEqual(whole(0x3FF0000000000000, 0), [0, 16, 1] + zeros[1:])
        self.assertEqual(whole(0x4006000000000000, 1), [0, 16, 2] + zeros[1:])
        self.assertEqual(whole(0xC006000000000000, 0), [0, 16, 254] + ones[1:])
        self.assertEqual(whole(0x408F400000000000, 1), [0, 16, 232, 3] + zeros[2:])
        self.assertEqual(whole(0xBFF0000000000000, 0), [0, 16] + ones)
        self.assertEqual(whole(0x43F0000000000000, 0), [0, 16] + zeros[:8] + [1] + zeros[9:])
        self.assertEqual(whole(0x0000000000000000, 0), [0, 16] + zeros)
        self.assertEqual(whole(0xC7E0000000000000, 0), [0, 16] + zeros[1:] + [128])
        self.assertEqual(whole(0x47EFFFFFFFFFFFFF, 1), [0, 16] + zeros[:9] + [248] + ones[10:])

    def test_both_zeros(self):
        self.check_both(ZERO, 0)
        self.check_both(SIGN + ZERO, 0)

    def test_below_the_least_normal_number_and_around_it(self):
        for x in (LEAST, LEAST + 1, GREATEST_BELOW_NORMAL - 1, GREATEST_BELOW_NORMAL, LEAST_NORMAL, LEAST_NORMAL + 1):
            self.check_both(x, 0)
            self.check_both(SIGN + x, 0)

    def test_small_numbers_and_their_opposites(self):
        rows = [(0.5, 0), (0.999, 0), (1.0, 1), (1.5, 1), (1.999, 1), (2.0, 2), (2.75, 2), (1000.25, 1000)]
        for number, wanted in rows:
            self.check_both(bits_of_float(number), wanted)
            self.check(bits_of_float(-number), 0, -wanted)
            if wanted == 0:
                self.check(bits_of_float(-number), 1, 0)
            else:
                self.check_refused(bits_of_float(-number), 1)

    def test_the_doubles_next_to_one(self):
        one = 0x3FF0000000000000
        self.check_both(one - 1, 0)
        self.check_both(one, 1)
        self.check_both(one + 1, 1)
        self.check_both(SIGN + one - 1, 0)
        self.check(SIGN + one, 0, -1)
        self.check_refused(SIGN + one, 1)
        self.check(SIGN + one + 1, 0, -1)
        self.check_refused(SIGN + one + 1, 1)

    def test_the_point_among_the_bits_and_behind_them(self):
        fraction = 0xABCDEF0123457
        significand = 2 ** 52 + fraction
        for exponent in range(127):
            x = ((1023 + exponent) << 52) + fraction
            wanted = significand * 2 ** exponent // 2 ** 52
            self.check_both(x, wanted)
            self.check(SIGN + x, 0, -wanted)
            self.check_refused(SIGN + x, 1)

    def test_around_the_point_behind_the_last_bit(self):
        for exponent in (51, 52, 53):
            x = (1023 + exponent) << 52
            self.check_both(x, 2 ** exponent)
            self.check_both(x + 1, 2 ** exponent + 2 ** exponent // 2 ** 52)
            self.check_both(x - 1, 2 ** exponent - 1)
        self.check_both(bits_of_float(2.0 ** 52 - 0.5), 2 ** 52 - 1)

    def test_next_to_two_to_the_127(self):
        self.check_both(AT_127 - 1, HALF - 2 ** 74)
        self.check_refused(AT_127, 0)
        self.check(AT_127, 1, HALF)
        self.check_refused(AT_127 + 1, 0)
        self.check(AT_127 + 1, 1, HALF + 2 ** 75)

    def test_next_to_the_least_signed_number(self):
        self.check(SIGN + AT_127 - 1, 0, -HALF + 2 ** 74)
        self.check(SIGN + AT_127, 0, -HALF)
        self.check_refused(SIGN + AT_127 + 1, 0)
        for x in (AT_127 - 1, AT_127, AT_127 + 1):
            self.check_refused(SIGN + x, 1)

    def test_next_to_two_to_the_128(self):
        self.check(AT_128 - 1, 1, 2 ** 128 - 2 ** 75)
        for x in (AT_128, AT_128 + 1):
            self.check_refused(x, 1)
        for x in (AT_128 - 1, AT_128, AT_128 + 1):
            self.check_refused(x, 0)
            self.check_refused(SIGN + x, 0)
            self.check_refused(SIGN + x, 1)

    def test_the_greatest_doubles(self):
        for x in (AT_128 + 2 ** 58, INFINITE - 2 ** 52, INFINITE - 1):
            for plain in (0, 1):
                self.check_refused(x, plain)
                self.check_refused(SIGN + x, plain)

    def test_no_numbers(self):
        for x in NOT_NUMBERS:
            for plain in (0, 1):
                self.check_refused(x, plain)
                self.check_refused(SIGN + x, plain)

    def test_against_the_machine_at_every_exponent(self):
        for exponent in range(2047):
            for fraction in (0, 1, 2 ** 51, 0x5555555555555, 2 ** 52 - 1):
                for x in ((exponent << 52) + fraction, SIGN + (exponent << 52) + fraction):
                    number = math.trunc(float_of_bits(x))
                    for plain, low, high in ((0, -HALF, HALF - 1), (1, 0, TOP)):
                        if low <= number <= high:
                            self.check(x, plain, number)
                        else:
                            self.check_refused(x, plain)

    def test_doubles_of_whole_numbers_are_these_again(self):
        for number in (0, 1, 2, 1000, 2 ** 53 - 1, 2 ** 53, 2 ** 100, 2 ** 126, HALF - 2 ** 74):
            self.check_both(double(number, 1)[0], number)
            self.check(double((2 ** 128 - number) % 2 ** 128, 0)[0], 0, -number)

    def test_form_and_nothing_kept(self):
        points = (ZERO, LEAST, 0x3FE0000000000000, 0x3FF0000000000000, 0x4006000000000000, AT_127 - 1, AT_127, AT_128,
                  INFINITE, SIGN - 1) + tuple(a % 2 ** 63 for a in MIXED)
        calls = [(x, plain) for point in points for x in (point, SIGN + point) for plain in (0, 1)]
        for call in calls:
            self.check_form(whole, call)
        self.check_nothing_is_kept(whole, calls)


if __name__ == "__main__":
    unittest.main()
