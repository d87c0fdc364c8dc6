"""Promise 1: op, by op."""

import unittest

from widewhole.wholes import op

TOP = 2 ** 128 - 1
HALF = 2 ** 127
EDGES = [0, 1, 2, 3, 7, 127, 128, 255, 256, 2 ** 64 - 1, 2 ** 64, 2 ** 64 + 1, HALF - 2, HALF - 1, HALF,
         HALF + 1, HALF + 2, TOP - 127, TOP - 6, TOP - 2, TOP - 1, TOP,
         0x0123456789ABCDEFFEDCBA9876543210, 0xF0E1D2C3B4A5968778695A4B3C2D1E0F]


def bits_of(number):
    """The number of 128 bits that tells a whole number, below 0 too."""
    return number % 2 ** 128


def signed(a):
    return int.from_bytes(a.to_bytes(16, "little"), "little", signed=True)


def answer(first, number):
    return [first, 16] + list(bits_of(number).to_bytes(16, "little"))


class OpCase(unittest.TestCase):
    def check(self, number, a, b, first, result):
        """a and b may be told as signed numbers here; op gets their 128 bits."""
        got = op(number, bits_of(a), bits_of(b))
        self.assertEqual(got, answer(first, result), (number, a, b))

    def check_all(self, number, rows):
        for a, b, first, result in rows:
            self.check(number, a, b, first, result)


class Form(OpCase):
    def test_whole_lists_of_each_op(self):
        zeros = [0] * 8
        ones = [255] * 8
        a = 0x0102030405060708090A0B0C0D0E0F10
        rows = [
            (0, a, 1, [0, 16, 17, 15, 14, 13, 12, 11, 10, 9, 8, 7, 6, 5, 4, 3, 2, 1]),
            (1, 5, 7, [0, 16, 254, 255, 255, 255, 255, 255, 255, 255] + ones),
            (2, 300, 300, [0, 16, 144, 95, 1, 0, 0, 0, 0, 0] + zeros),
            (3, 255, 1, [0, 16, 0, 1, 0, 0, 0, 0, 0, 0] + zeros),
            (4, 1000, 1, [0, 16, 231, 3, 0, 0, 0, 0, 0, 0] + zeros),
            (5, 2 ** 64, 2, [0, 16] + zeros + [2, 0, 0, 0, 0, 0, 0, 0]),
            (6, TOP - 6, 2, [0, 16, 253, 255, 255, 255, 255, 255, 255, 255] + ones),
            (7, TOP - 6, 2, [0, 16, 255, 255, 255, 255, 255, 255, 255, 255] + ones),
            (8, TOP - 6, 2, [0, 16, 252, 255, 255, 255, 255, 255, 255, 255] + ones),
            (9, TOP - 6, 2, [0, 16, 1, 0, 0, 0, 0, 0, 0, 0] + zeros),
            (10, 1000, 3, [0, 16, 77, 1, 0, 0, 0, 0, 0, 0] + zeros),
            (11, 1000, 300, [0, 16, 100, 0, 0, 0, 0, 0, 0, 0] + zeros),
            (12, a, 0xFF00FF, [0, 16, 16, 0, 14, 0, 0, 0, 0, 0] + zeros),
            (13, a, 0xFF00FF, [0, 16, 255, 15, 255, 13, 12, 11, 10, 9, 8, 7, 6, 5, 4, 3, 2, 1]),
            (14, a, 0xFF00FF, [0, 16, 239, 15, 241, 13, 12, 11, 10, 9, 8, 7, 6, 5, 4, 3, 2, 1]),
            (15, a, 8, [0, 16, 0, 16, 15, 14, 13, 12, 11, 10, 9, 8, 7, 6, 5, 4, 3, 2]),
            (16, a, 8, [0, 16, 15, 14, 13, 12, 11, 10, 9, 8, 7, 6, 5, 4, 3, 2, 1, 0]),
            (17, a, 8, [0, 16, 15, 14, 13, 12, 11, 10, 9, 8, 7, 6, 5, 4, 3, 2, 1, 0]),
            (18, a, 8, [0, 16, 1, 16, 15, 14, 13, 12, 11, 10, 9, 8, 7, 6, 5, 4, 3, 2]),
        ]
        self.assertEqual([row[0] for row in rows], list(range(19)))
        for number, left, right, wanted in rows:
            self.assertEqual(op(number, left, right), wanted, number)

    def test_a_list_of_whole_numbers_never_truth_values(self):
        for number in range(-1, 20):
            for a in EDGES:
                for b in EDGES:
                    got = op(number, a, b)
                    self.assertIs(type(got), list)
                    self.assertIn(len(got), (1, 18))
                    self.assertTrue(all(type(n) is int for n in got), (number, a, b))

    def test_same_answer_a_second_time_after_other_calls(self):
        calls = [(number, a, b) for number in range(-1, 20) for a in EDGES for b in EDGES]
        first = [op(number, a, b) for number, a, b in calls]
        kept = [list(got) for got in first]
        again = [op(number, a, b) for number, a, b in reversed(calls)]
        self.assertEqual(kept, again[::-1])
        self.assertEqual(kept, first)

    def test_an_answer_that_is_changed_does_not_change_the_next(self):
        for call in ((0, 1, 2), (6, 1, 0), (19, 1, 2), (15, 1, 2)):
            got = op(*call)
            wanted = list(got)
            got.append(7)
            got[0] = 99
            self.assertEqual(op(*call), wanted)


class SignedSums(OpCase):
    def test_sum(self):
        self.check_all(0, [
            (2, 3, 0, 5), (2, -3, 0, -1), (-2, -3, 0, -5), (0, 0, 0, 0), (-1, 1, 0, 0),
            (HALF - 2, 1, 0, HALF - 1), (HALF - 1, 0, 0, HALF - 1),
            (HALF - 1, 1, 1, -HALF), (HALF - 1, HALF - 1, 1, -2),
            (-HALF + 1, -1, 0, -HALF), (-HALF, 0, 0, -HALF),
            (-HALF, -1, 1, HALF - 1), (-HALF, -HALF, 1, 0), (-HALF, HALF - 1, 0, -1),
        ])

    def test_difference(self):
        self.check_all(1, [
            (2, 3, 0, -1), (3, 2, 0, 1), (-2, -3, 0, 1), (0, 0, 0, 0),
            (HALF - 2, -1, 0, HALF - 1), (HALF - 1, -1, 1, -HALF),
            (-HALF + 1, 1, 0, -HALF), (-HALF, 1, 1, HALF - 1),
            (0, -HALF, 1, -HALF), (-1, -HALF, 0, HALF - 1), (-HALF, -HALF, 0, 0),
            (HALF - 1, -HALF, 1, -1), (0, HALF - 1, 0, -HALF + 1), (-1, HALF - 1, 0, -HALF),
            (-2, HALF - 1, 1, HALF - 1),
        ])

    def test_product(self):
        self.check_all(2, [
            (6, 7, 0, 42), (-6, 7, 0, -42), (-6, -7, 0, 42), (0, -7, 0, 0),
            (2 ** 63, 2 ** 63, 0, 2 ** 126), (2 ** 64, 2 ** 63, 1, -HALF), (-2 ** 64, 2 ** 63, 0, -HALF),
            (-2 ** 64, -2 ** 63, 1, -HALF), (2 ** 64, 2 ** 64, 1, 0),
            (HALF - 1, 1, 0, HALF - 1), (HALF - 1, -1, 0, -HALF + 1), (HALF - 1, 2, 1, -2),
            (-HALF, 1, 0, -HALF), (-HALF, -1, 1, -HALF), (-HALF, 2, 1, 0), (-HALF, -HALF, 1, 0),
            (HALF - 1, HALF - 1, 1, 1), (-1, -1, 0, 1),
            # 2^127 - 1 is prime; 2^127 + 1 is 3 times the number here.
            ((HALF + 1) // 3, 3, 1, -HALF + 1), ((HALF + 1) // 3, -3, 1, HALF - 1),
            ((HALF - 2) // 3, 3, 0, HALF - 2), ((HALF - 2) // 3, -3, 0, -HALF + 2),
        ])


class PlainSums(OpCase):
    def test_sum(self):
        self.check_all(3, [
            (2, 3, 0, 5), (0, 0, 0, 0), (HALF - 1, 1, 0, HALF), (HALF, HALF - 1, 0, TOP),
            (TOP, 0, 0, TOP), (TOP - 1, 1, 0, TOP), (TOP, 1, 1, 0), (HALF, HALF, 1, 0), (TOP, TOP, 1, TOP - 1),
        ])

    def test_difference(self):
        self.check_all(4, [
            (3, 2, 0, 1), (0, 0, 0, 0), (TOP, TOP, 0, 0), (TOP, 0, 0, TOP), (HALF, 1, 0, HALF - 1),
            (0, 1, 1, TOP), (2, 3, 1, TOP), (0, TOP, 1, 1), (TOP - 1, TOP, 1, TOP), (HALF - 1, HALF, 1, TOP),
        ])

    def test_product(self):
        self.check_all(5, [
            (6, 7, 0, 42), (0, TOP, 0, 0), (1, TOP, 0, TOP), (TOP, 1, 0, TOP),
            (2 ** 64, 2 ** 63, 0, HALF), (2 ** 64, 2 ** 64, 1, 0), (HALF, 2, 1, 0), (HALF, 1, 0, HALF),
            (2 ** 64 - 1, 2 ** 64 + 1, 0, TOP), (2 ** 64, 2 ** 64 - 1, 0, TOP - 2 ** 64 + 1),
            (2 ** 64 + 1, 2 ** 64 + 1, 1, 2 ** 65 + 1), (TOP, 2, 1, TOP - 1), (TOP, TOP, 1, 1),
            (TOP // 3, 3, 0, TOP), (TOP // 3 + 1, 3, 1, 2),
        ])


class Quotients(OpCase):
    def test_toward_zero_at_each_pair_of_signs(self):
        self.check_all(6, [(7, 2, 0, 3), (-7, 2, 0, -3), (7, -2, 0, -3), (-7, -2, 0, 3)])
        self.check_all(7, [(7, 2, 0, 1), (-7, 2, 0, -1), (7, -2, 0, 1), (-7, -2, 0, -1)])

    def test_down_at_each_pair_of_signs(self):
        self.check_all(8, [(7, 2, 0, 3), (-7, 2, 0, -4), (7, -2, 0, -4), (-7, -2, 0, 3)])
        self.check_all(9, [(7, 2, 0, 1), (-7, 2, 0, 1), (7, -2, 0, -1), (-7, -2, 0, -1)])

    def test_nothing_left_over_at_each_pair_of_signs(self):
        for number in (6, 8):
            self.check_all(number, [(6, 2, 0, 3), (-6, 2, 0, -3), (6, -2, 0, -3), (-6, -2, 0, 3)])
        for number in (7, 9):
            self.check_all(number, [(6, 2, 0, 0), (-6, 2, 0, 0), (6, -2, 0, 0), (-6, -2, 0, 0)])

    def test_a_nearer_to_zero_than_b(self):
        self.check_all(6, [(2, 7, 0, 0), (-2, 7, 0, 0), (2, -7, 0, 0), (-2, -7, 0, 0), (0, -7, 0, 0)])
        self.check_all(7, [(2, 7, 0, 2), (-2, 7, 0, -2), (2, -7, 0, 2), (-2, -7, 0, -2), (0, -7, 0, 0)])
        self.check_all(8, [(2, 7, 0, 0), (-2, 7, 0, -1), (2, -7, 0, -1), (-2, -7, 0, 0), (0, -7, 0, 0)])
        self.check_all(9, [(2, 7, 0, 2), (-2, 7, 0, 5), (2, -7, 0, -5), (-2, -7, 0, -2), (0, -7, 0, 0)])

    def test_the_lowest_number_by_minus_one(self):
        self.check(6, -HALF, -1, 1, HALF)
        self.check(7, -HALF, -1, 0, 0)
        self.check(8, -HALF, -1, 1, HALF)
        self.check(9, -HALF, -1, 0, 0)

    def test_signed_ends(self):
        self.check_all(6, [
            (-HALF, 1, 0, -HALF), (HALF - 1, -1, 0, -HALF + 1), (-HALF + 1, -1, 0, HALF - 1),
            (-HALF, 2, 0, -HALF // 2), (-HALF, -2, 0, HALF // 2), (-HALF, -HALF, 0, 1),
            (HALF - 1, -HALF, 0, 0), (-HALF, HALF - 1, 0, -1), (-HALF, 3, 0, -(HALF // 3)),
        ])
        self.check_all(7, [(HALF - 1, -HALF, 0, HALF - 1), (-HALF, HALF - 1, 0, -1), (-HALF, 3, 0, -2)])
        self.check_all(8, [(HALF - 1, -HALF, 0, -1), (-HALF, HALF - 1, 0, -2), (-HALF, 3, 0, -(HALF // 3) - 1)])
        self.check_all(9, [(HALF - 1, -HALF, 0, -1), (-HALF, HALF - 1, 0, HALF - 2), (-HALF, 3, 0, 1)])

    def test_plain(self):
        self.check_all(10, [
            (7, 2, 0, 3), (2, 7, 0, 0), (0, 7, 0, 0), (HALF, TOP, 0, 0), (TOP, HALF, 0, 1), (HALF, 2, 0, 2 ** 126),
            (TOP, 2, 0, HALF - 1), (TOP, 1, 0, TOP), (TOP, TOP, 0, 1), (HALF, HALF, 0, 1), (TOP, 10, 0, TOP // 10),
            (HALF + 5, HALF - 1, 0, 1), (HALF - 1, HALF, 0, 0),
        ])
        self.check_all(11, [
            (7, 2, 0, 1), (2, 7, 0, 2), (0, 7, 0, 0), (HALF, TOP, 0, HALF), (TOP, HALF, 0, HALF - 1), (HALF, 2, 0, 0),
            (TOP, 2, 0, 1), (TOP, 1, 0, 0), (TOP, TOP, 0, 0), (TOP, 10, 0, 5), (TOP - 1, TOP, 0, TOP - 1),
            (HALF + 5, HALF - 1, 0, 6), (HALF - 1, HALF, 0, HALF - 1),
        ])

    def test_by_zero(self):
        for number in range(6, 12):
            for a in EDGES:
                self.assertEqual(op(number, a, 0), [-1], (number, a))

    def test_zero_as_b_refuses_nothing_else(self):
        for number in list(range(6)) + list(range(12, 19)):
            for a in EDGES:
                self.assertEqual(op(number, a, 0)[:2], [0, 16], (number, a))

    def test_quotient_and_rest_make_a_again(self):
        for a in EDGES:
            for b in EDGES[1:]:
                for plain, down, quotient_op in ((0, 0, 6), (0, 1, 8), (1, 1, 10)):
                    self.check_pair(a, b, plain, down, quotient_op)

    def check_pair(self, a, b, plain, down, quotient_op):
        if not plain and (a, b) == (HALF, TOP):
            return
        told = (lambda bits: bits) if plain else signed
        got_quotient = op(quotient_op, a, b)
        got_rest = op(quotient_op + 1, a, b)
        self.assertEqual([got_quotient[0], got_rest[0]], [0, 0])
        quotient = told(int.from_bytes(bytes(got_quotient[2:]), "little"))
        rest = told(int.from_bytes(bytes(got_rest[2:]), "little"))
        self.assertEqual(quotient * told(b) + rest, told(a), (a, b))
        self.assertLess(abs(rest), abs(told(b)))
        if rest != 0:
            self.assertEqual(rest < 0, told(b if down else a) < 0, (a, b))


class Bits(OpCase):
    def test_and(self):
        self.check_all(12, [
            (0, 0, 0, 0), (0, TOP, 0, 0), (TOP, TOP, 0, TOP), (TOP, 12, 0, 12), (12, 10, 0, 8),
            (HALF, TOP, 0, HALF), (HALF, HALF - 1, 0, 0),
        ])

    def test_or(self):
        self.check_all(13, [
            (0, 0, 0, 0), (0, TOP, 0, TOP), (TOP, TOP, 0, TOP), (12, 10, 0, 14), (HALF, 0, 0, HALF),
            (HALF, HALF - 1, 0, TOP),
        ])

    def test_exclusive_or(self):
        self.check_all(14, [
            (0, 0, 0, 0), (0, TOP, 0, TOP), (TOP, TOP, 0, 0), (12, 10, 0, 6), (HALF, TOP, 0, HALF - 1),
            (HALF, HALF - 1, 0, TOP),
        ])

    def test_mixed_bits_bit_by_bit(self):
        tables = {12: "0001", 13: "0111", 14: "0110"}
        for number, table in tables.items():
            for a in EDGES:
                for b in EDGES:
                    text = "".join(table[int(x) * 2 + int(y)] for x, y in zip(f"{a:0128b}", f"{b:0128b}"))
                    self.check(number, a, b, 0, int(text, 2))


class Shifts(OpCase):
    # Each distance as itself, and told by a b above 127 of which the lowest seven bits count alone.
    HIGHER = (0, 128, 2 ** 64, HALF, TOP - 127)

    def check_shift(self, number, a, distance, result):
        for more in self.HIGHER:
            self.check(number, a, distance + more, 0, result)

    def test_left(self):
        rows = [(0x81, 0, 0x81), (0x81, 1, 0x102), (0x81, 8, 0x8100), (0x81, 127, HALF), (2, 127, 0), (0, 8, 0),
                (TOP, 1, TOP - 1), (HALF, 1, 0), (TOP, 127, HALF), (TOP, 0, TOP)]
        for a, distance, result in rows:
            self.check_shift(15, a, distance, result)

    def test_right_with_its_sign(self):
        rows = [(0x8100, 0, 0x8100), (0x8100, 1, 0x4080), (0x8100, 8, 0x81), (0x8100, 127, 0), (HALF - 1, 127, 0),
                (HALF - 1, 126, 1), (HALF, 0, HALF), (HALF, 1, -2 ** 126), (HALF, 8, -2 ** 119), (HALF, 127, -1),
                (TOP, 1, TOP), (TOP, 127, TOP), (TOP - 6, 1, -4), (0, 127, 0)]
        for a, distance, result in rows:
            self.check_shift(16, a, distance, result)

    def test_right_with_zeros(self):
        rows = [(0x8100, 0, 0x8100), (0x8100, 1, 0x4080), (0x8100, 8, 0x81), (0x8100, 127, 0), (HALF, 0, HALF),
                (HALF, 1, 2 ** 126), (HALF, 8, 2 ** 119), (HALF, 127, 1), (TOP, 1, HALF - 1), (TOP, 127, 1),
                (0, 127, 0)]
        for a, distance, result in rows:
            self.check_shift(17, a, distance, result)

    def test_turned_left(self):
        rows = [(0x81, 0, 0x81), (0x81, 1, 0x102), (0x81, 127, HALF + 0x40), (HALF, 1, 1), (HALF + 1, 1, 3),
                (0xAB << 120, 8, 0xAB), (1, 127, HALF), (2, 127, 1), (TOP, 8, TOP), (0, 1, 0), (HALF, 0, HALF)]
        for a, distance, result in rows:
            self.check_shift(18, a, distance, result)

    def test_every_distance_bit_by_bit(self):
        for a in EDGES:
            text = f"{a:0128b}"
            for distance in range(256):
                n = distance % 128
                rest = 128 - n
                self.check(15, a, distance, 0, int(text[n:] + "0" * n, 2))
                self.check(16, a, distance, 0, int(text[0] * n + text[:rest], 2))
                self.check(17, a, distance, 0, int("0" * n + text[:rest], 2))
                self.check(18, a, distance, 0, int(text[n:] + text[:n], 2))


class OtherOps(OpCase):
    def test_refused(self):
        for number in (-1, -2, -12, 19, 20, 31, 128, 256, 262, -2147483648, 2147483647):
            for a in EDGES:
                for b in EDGES:
                    self.assertEqual(op(number, a, b), [-2], (number, a, b))


class Sweep(OpCase):
    def test_results_at_every_pair_of_edges(self):
        for a in EDGES:
            for b in EDGES:
                x, y = signed(a), signed(b)
                for number, result in ((0, x + y), (1, x - y), (2, x * y)):
                    self.check(number, a, b, 0 if -HALF <= result <= HALF - 1 else 1, result)
                for number, result in ((3, a + b), (4, a - b), (5, a * b)):
                    self.check(number, a, b, 0 if 0 <= result <= TOP else 1, result)


if __name__ == "__main__":
    unittest.main()
