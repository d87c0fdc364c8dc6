"""Promise 4: product."""

import unittest

from support import HALF, MIXED, TOP, CallCase, row_of_bytes
from widewhole.wholes import product

NEIGHBOURS = (2 ** 64 - 2, 2 ** 64 - 1, 2 ** 64, 2 ** 64 + 1, 2 ** 64 + 2)
EDGES = (0, 1, 2, 3, 10, 255, 256) + NEIGHBOURS + (HALF - 1, HALF, HALF + 1, TOP - 1, TOP) + MIXED


class Product(CallCase):
    def test_whole_lists(self):
        zeros = [0] * 8
        ones = [255] * 8
        rows = [
            (0, 0, zeros + zeros + zeros + zeros),
            (6, 7, [42, 0, 0, 0, 0, 0, 0, 0] + zeros + zeros + zeros),
            (300, 300, [144, 95, 1, 0, 0, 0, 0, 0] + zeros + zeros + zeros),
            (2 ** 64, 2 ** 64, zeros + zeros + [1, 0, 0, 0, 0, 0, 0, 0] + zeros),
            (2 ** 64 - 1, 2 ** 64 - 1, [1, 0, 0, 0, 0, 0, 0, 0, 254] + ones[1:] + zeros + zeros),
            (2 ** 64 - 1, 2 ** 64 + 1, ones + ones + zeros + zeros),
            (2 ** 64 + 1, 2 ** 64 + 1, [1, 0, 0, 0, 0, 0, 0, 0, 2, 0, 0, 0, 0, 0, 0, 0, 1] + zeros[1:] + zeros),
            (HALF, 2, zeros + zeros + [1, 0, 0, 0, 0, 0, 0, 0] + zeros),
            (HALF, HALF, zeros + zeros + zeros + [0, 0, 0, 0, 0, 0, 0, 64]),
            (TOP, 2, [254] + ones[1:] + ones + [1, 0, 0, 0, 0, 0, 0, 0] + zeros),
            (TOP, HALF, zeros + [0, 0, 0, 0, 0, 0, 0, 128] + ones + ones[1:] + [127]),
            (TOP, TOP, [1, 0, 0, 0, 0, 0, 0, 0] + zeros + [254] + ones[1:] + ones),
        ]
        for a, b, wanted in rows:
            self.assertEqual(len(wanted), 32)
            self.assertEqual(product(a, b), [0, 32] + wanted, (a, b))
            self.assertEqual(product(b, a), [0, 32] + wanted, (b, a))

    def test_by_zero_and_by_one(self):
        for a in EDGES:
            self.assertEqual(product(a, 0), [0, 32] + [0] * 32)
            self.assertEqual(product(0, a), [0, 32] + [0] * 32)
            self.assertEqual(product(a, 1), [0, 32] + list(a.to_bytes(32, "little")))
            self.assertEqual(product(1, a), [0, 32] + list(a.to_bytes(32, "little")))

    def test_every_pair_of_edges(self):
        for a in EDGES:
            for b in EDGES:
                self.assertEqual(product(a, b), [0] + row_of_bytes(a * b, 32), (a, b))

    def test_every_pair_of_powers_of_two(self):
        for i in range(128):
            for j in range(128):
                wanted = [0] * 32
                wanted[(i + j) // 8] = 2 ** ((i + j) % 8)
                self.assertEqual(product(2 ** i, 2 ** j), [0, 32] + wanted, (i, j))

    def test_form_and_nothing_kept(self):
        calls = [(a, b) for a in EDGES for b in EDGES]
        for call in calls:
            self.check_form(product, call)
        self.check_nothing_is_kept(product, calls)


if __name__ == "__main__":
    unittest.main()
