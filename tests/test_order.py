"""Promise 2: order."""

import unittest

from widewhole.wholes import op, order

TOP = 2 ** 128 - 1
HALF = 2 ** 127
RISING_PLAIN = [0, 1, 2, 255, 256, 2 ** 64, HALF - 1, HALF, HALF + 1, TOP - 1, TOP]
RISING_SIGNED = [HALF, HALF + 1, TOP - 1, TOP, 0, 1, 2, 255, 256, 2 ** 64, HALF - 1]


class Order(unittest.TestCase):
    def check_rising(self, rising, plain):
        for i, a in enumerate(rising):
            for j, b in enumerate(rising):
                wanted = [-1] if i < j else [1] if i > j else [0]
                self.assertEqual(order(a, b, plain), wanted, (a, b, plain))

    def test_signed(self):
        self.check_rising(RISING_SIGNED, 0)

    def test_plain(self):
        self.check_rising(RISING_PLAIN, 1)

    def test_pairs_that_stand_otherwise_signed_and_plain(self):
        rows = [(0, TOP, 1, -1), (TOP, 0, -1, 1), (HALF - 1, HALF, 1, -1), (HALF, HALF - 1, -1, 1),
                (1, HALF, 1, -1), (HALF, TOP, -1, -1), (TOP, HALF, 1, 1), (0, 1, -1, -1), (1, 0, 1, 1)]
        for a, b, as_signed, as_plain in rows:
            self.assertEqual(order(a, b, 0), [as_signed], (a, b))
            self.assertEqual(order(a, b, 1), [as_plain], (a, b))

    def test_equal(self):
        for a in (0, 1, HALF - 1, HALF, TOP):
            self.assertEqual(order(a, a, 0), [0])
            self.assertEqual(order(a, a, 1), [0])

    def test_a_list_of_one_whole_number(self):
        for a in RISING_PLAIN:
            for b in RISING_PLAIN:
                for plain in (0, 1):
                    got = order(a, b, plain)
                    self.assertIs(type(got), list)
                    self.assertEqual([type(n) for n in got], [int])

    def test_same_answer_a_second_time_after_other_calls(self):
        calls = [(a, b, plain) for a in RISING_PLAIN for b in RISING_PLAIN for plain in (0, 1)]
        first = [order(*call) for call in calls]
        kept = [list(got) for got in first]
        for got in first:
            got.append(op(6, 1, 0))
        self.assertEqual([order(*call) for call in reversed(calls)][::-1], kept)


if __name__ == "__main__":
    unittest.main()
