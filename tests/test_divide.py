"""Promise 5: divide."""

import unittest

from support import HALF, MIXED, TOP, CallCase, row_of_bytes
from widewhole.wholes import divide

SPAN = 2 ** 128
WIDE_TOP = 2 ** 256 - 1
DIVISORS = (1, 2, 3, 7, 10, 255, 256, 2 ** 64 - 1, 2 ** 64, 2 ** 64 + 1, HALF - 1, HALF, HALF + 1, TOP - 1, TOP) + MIXED
NUMBERS = (0, 1, 2, 9, 10, 1000, 2 ** 64, HALF, TOP - 1, TOP, SPAN, SPAN + 1, 2 ** 192, 2 ** 255, WIDE_TOP - 1,
           WIDE_TOP) + MIXED


def answer(quotient, rest):
    return [0] + row_of_bytes(quotient, 16) + row_of_bytes(rest, 16)


class Divide(CallCase):
    def check(self, n, d, quotient, rest):
        self.assertEqual(divide(n, d), answer(quotient, rest), (n, d))

    def test_whole_lists(self):
        zeros = [0] * 8
        ones = [255] * 8
        rows = [
            (7, 2, [3, 0, 0, 0, 0, 0, 0, 0] + zeros, [1, 0, 0, 0, 0, 0, 0, 0] + zeros),
            (6, 2, [3, 0, 0, 0, 0, 0, 0, 0] + zeros, zeros + zeros),
            (1000, 300, [3, 0, 0, 0, 0, 0, 0, 0] + zeros, [100, 0, 0, 0, 0, 0, 0, 0] + zeros),
            (100000, 3, [53, 130, 0, 0, 0, 0, 0, 0] + zeros, [1, 0, 0, 0, 0, 0, 0, 0] + zeros),
            (5, 2 ** 64, zeros + zeros, [5, 0, 0, 0, 0, 0, 0, 0] + zeros),
            (0, 9, zeros + zeros, zeros + zeros),
            (SPAN, 2, zeros + [0, 0, 0, 0, 0, 0, 0, 128], zeros + zeros),
            (SPAN, TOP, [1, 0, 0, 0, 0, 0, 0, 0] + zeros, [1, 0, 0, 0, 0, 0, 0, 0] + zeros),
            (SPAN * TOP - 1, TOP, ones + ones, [254] + ones[1:] + ones),
        ]
        for n, d, quotient, rest in rows:
            self.assertEqual(divide(n, d), [0, 16] + quotient + [16] + rest, (n, d))

    def test_n_zero(self):
        for d in DIVISORS:
            self.check(0, d, 0, 0)

    def test_d_one(self):
        for n in (0, 1, 255, 2 ** 64, HALF, TOP - 1, TOP):
            self.check(n, 1, n, 0)
        for n in (SPAN, SPAN + 1, 2 ** 255, WIDE_TOP):
            self.assertEqual(divide(n, 1), [1], n)

    def test_d_the_greatest(self):
        self.check(TOP - 1, TOP, 0, TOP - 1)
        self.check(TOP, TOP, 1, 0)
        self.check(SPAN, TOP, 1, 1)
        self.check(TOP * TOP, TOP, TOP, 0)
        self.check(TOP * TOP + TOP - 1, TOP, TOP, TOP - 1)
        self.assertEqual(divide(TOP * SPAN, TOP), [1])
        self.assertEqual(divide(WIDE_TOP, TOP), [1])

    def test_n_less_than_d_and_equal(self):
        for d in DIVISORS:
            self.check(d - 1, d, 0, d - 1)
            self.check(d, d, 1, 0)

    def test_n_from_two_to_the_128_on(self):
        self.check(SPAN, 3, TOP // 3, 1)
        self.check(SPAN + 1, 2, HALF, 1)
        self.check(2 ** 192, 2 ** 65, HALF, 0)
        self.check(2 ** 192 + 12345, 2 ** 65, HALF, 12345)
        self.check(2 ** 254, HALF, HALF, 0)
        self.check(2 ** 255 - 1, HALF, TOP, HALF - 1)

    def test_by_zero(self):
        for n in NUMBERS:
            self.assertEqual(divide(n, 0), [-1], n)

    def test_quotient_that_just_fits_and_just_does_not(self):
        for d in DIVISORS:
            self.check(TOP * d, d, TOP, 0)
            self.check(SPAN * d - 1, d, TOP, d - 1)
            self.assertEqual(divide(SPAN * d, d), [1], d)
            self.assertEqual(divide(SPAN * d + d - 1, d), [1], d)

    def test_made_from_quotient_and_rest(self):
        for d in DIVISORS:
            for quotient in (0, 1, 2, 1000, 2 ** 64 - 1, 2 ** 64, HALF - 1, HALF, TOP - 1, TOP) + MIXED:
                for rest in (0, 1, d // 3, d // 2, d - 1):
                    if rest < d:
                        self.check(quotient * d + rest, d, quotient, rest)

    def test_form_and_nothing_kept(self):
        calls = [(n, d) for n in NUMBERS for d in (0,) + DIVISORS]
        for call in calls:
            self.check_form(divide, call)
        self.check_nothing_is_kept(divide, calls)


if __name__ == "__main__":
    unittest.main()
