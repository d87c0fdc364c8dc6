"""Promise 9: write."""

import unittest

from support import HALF, MIXED, TOP, CallCase, row_of_bytes
from widewhole.wholes import read, write

BASES_OUT = (1, 37, 0, -1, -2, -10, -36, 38, 64, 256, -2 ** 31, 2 ** 31 - 1)
NUMBERS = (0, 1, 2, 9, 10, 11, 35, 36, 37, 100, 255, 256, 2 ** 64 - 1, 2 ** 64, HALF - 2, HALF - 1, HALF, HALF + 1,
           TOP - 35, TOP - 9, TOP - 1, TOP) + MIXED


class Write(CallCase):
    def check(self, number, base, text):
        """The number may be told as a signed one here; write gets its 128 bits."""
        wanted = [len(text), len(text)] + [ord(sign) for sign in text]
        self.assertEqual(write(number % 2 ** 128, base), wanted, (number, base))

    def check_all(self, number, two, three, ten, sixteen, thirty_six):
        for base, text in ((2, two), (3, three), (10, ten), (16, sixteen), (36, thirty_six)):
            self.check(number, base, text)
            if number > 0:
                self.check(-number, base, "-" + text)

    def test_whole_lists(self):
        self.assertEqual(write(0, 10), [1, 1, 48])
        self.assertEqual(write(1000, 10), [4, 4, 49, 48, 48, 48])
        self.assertEqual(write(255, 16), [2, 2, 102, 102])
        self.assertEqual(write(TOP, 10), [2, 2, 45, 49])
        self.assertEqual(write(TOP - 34, 36), [2, 2, 45, 122])
        self.assertEqual(write(HALF, 2), [129, 129, 45, 49] + [48] * 127)

    def test_small_numbers_and_their_opposites(self):
        self.check_all(0, "0", "0", "0", "0", "0")
        self.check_all(1, "1", "1", "1", "1", "1")
        self.check_all(9, "1001", "100", "9", "9", "9")
        self.check_all(10, "1010", "101", "10", "a", "a")
        self.check_all(15, "1111", "120", "15", "f", "f")
        self.check_all(16, "10000", "121", "16", "10", "g")
        self.check_all(35, "100011", "1022", "35", "23", "z")
        self.check_all(36, "100100", "1100", "36", "24", "10")
        self.check_all(1000, "1111101000", "1101001", "1000", "3e8", "rs")
        self.check_all(48879, "1011111011101111", "2111001100", "48879", "beef", "11pr")

    def test_the_greatest_and_the_least(self):
        rows = [
            (2, "1" * 127, "-1" + "0" * 127),
            (10, "170141183460469231731687303715884105727", "-170141183460469231731687303715884105728"),
            (16, "7" + "f" * 31, "-8" + "0" * 31),
            (3, "101100201022001010121000102002120122110122221010202000122201220121120010200022001",
             "-101100201022001010121000102002120122110122221010202000122201220121120010200022002"),
            (36, "7ksyyizzkutudzbv8aqztecjj", "-7ksyyizzkutudzbv8aqztecjk"),
        ]
        for base, greatest, least in rows:
            self.check(HALF - 1, base, greatest)
            self.check(HALF, base, least)
            self.check(-HALF + 1, base, "-" + greatest)

    def test_minus_one(self):
        for base in range(2, 37):
            self.check(TOP, base, "-1")

    def test_mixed_numbers(self):
        a, b = MIXED
        self.check(a, 16, "123456789abcdeffedcba9876543210")
        self.check(b, 16, "-f1e2d3c4b5a69788796a5b4c3d2e1f1")
        for number in (a, b - 2 ** 128):
            self.check(number, 2, f"{number:b}")
            self.check(number, 10, f"{number:d}")
            self.check(number, 16, f"{number:x}")

    def test_powers_of_each_base(self):
        for base in range(2, 37):
            last = "0123456789abcdefghijklmnopqrstuvwxyz"[base - 1]
            places = 0
            while base ** places < HALF:
                self.check(base ** places, base, "1" + "0" * places)
                self.check(-base ** places, base, "-1" + "0" * places)
                if places > 0:
                    self.check(base ** places - 1, base, last * places)
                    self.check(1 - base ** places, base, "-" + last * places)
                places += 1

    def test_only_told_letters_and_no_zero_before_others(self):
        for base in range(2, 37):
            told = [ord(sign) for sign in "0123456789abcdefghijklmnopqrstuvwxyz"[:base]]
            for a in NUMBERS:
                got = write(a, base)
                self.assertEqual(got[0], len(got) - 2)
                self.assertEqual(got[1], len(got) - 2)
                self.assertEqual(got[2] == 45, a >= HALF)
                letters = got[3:] if a >= HALF else got[2:]
                self.assertEqual([letter for letter in letters if letter not in told], [])
                self.assertTrue(letters[0] != 48 or a == 0, (a, base))
                self.assertEqual(letters == [48], a == 0)

    def test_other_bases(self):
        for base in BASES_OUT:
            for a in NUMBERS:
                self.assertEqual(write(a, base), [-1], (a, base))

    def test_read_back_in_every_base(self):
        for base in range(2, 37):
            for a in NUMBERS:
                letters = write(a, base)[2:]
                self.assertEqual(read(len(letters), base, letters), [0] + row_of_bytes(a, 16), (a, base))

    def test_form_and_nothing_kept(self):
        calls = [(a, base) for a in NUMBERS for base in (1, 2, 3, 10, 16, 36, 37)]
        for call in calls:
            self.check_form(write, call)
        self.check_nothing_is_kept(write, calls)


if __name__ == "__main__":
    unittest.main()
