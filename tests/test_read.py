"""Promise 8: read."""

import unittest

from support import HALF, MIXED, CallCase, row_of_bytes
from widewhole.wholes import read

SIGNS = "0123456789abcdefghijklmnopqrstuvwxyz"
BASES_OUT = (1, 37, 0, -1, -2, -10, 38, 64, 256, -2 ** 31, 2 ** 31 - 1)


def letters_of(text):
    return [ord(sign) for sign in text]


def digits(number, base):
    """The number's digits in the base, told otherwise than the program tells them: from the highest place down."""
    place = 1
    while place * base <= number:
        place *= base
    text = ""
    while place > 0:
        text += SIGNS[number // place]
        number %= place
        place //= base
    return text


class ReadCase(CallCase):
    def answer(self, text, base):
        letters = letters_of(text)
        kept = list(letters)
        got = read(len(letters), base, letters)
        self.assertEqual(letters, kept, "the text is as it was")
        return got

    def check(self, text, base, number):
        self.assertEqual(self.answer(text, base), [0] + row_of_bytes(number, 16), (text, base))

    def check_no_text(self, text, base):
        self.assertEqual(self.answer(text, base), [-1], (text, base))

    def check_no_fit(self, text, base):
        self.assertEqual(self.answer(text, base), [-2], (text, base))


class Digits(ReadCase):
    def test_whole_lists(self):
        self.assertEqual(read(4, 10, letters_of("1000")), [0, 16, 232, 3] + [0] * 14)
        self.assertEqual(read(2, 10, letters_of("-1")), [0, 16] + [255] * 16)
        self.assertEqual(read(1, 2, letters_of("0")), [0, 16] + [0] * 16)
        self.assertEqual(read(32, 16, letters_of("0102030405060708090a0B0c0D0e0F10")), [0, 16] + list(range(16, 0, -1)))

    def test_ordinary_texts(self):
        rows = [("0", 2, 0), ("1", 2, 1), ("1011", 2, 11), ("42", 10, 42), ("907", 10, 907), ("ff", 16, 255),
                ("FF", 16, 255), ("fF", 16, 255), ("dead", 16, 57005), ("zz", 36, 1295), ("ZZ", 36, 1295),
                ("zZ", 36, 1295), ("10", 2, 2), ("10", 3, 3), ("10", 10, 10), ("10", 16, 16), ("10", 36, 36),
                ("a", 11, 10), ("A", 11, 10), ("Hello", 36, 29234652)]
        for text, base, number in rows:
            self.check(text, base, number)
            self.check("-" + text, base, -number)

    def test_each_digit_in_each_base(self):
        for base in range(2, 37):
            for digit, sign in enumerate(SIGNS):
                for text in (sign, sign.upper()):
                    if digit < base:
                        self.check(text, base, digit)
                        self.check("1" + text, base, base + digit)
                        self.check("-" + text, base, -digit)
                    else:
                        self.check_no_text(text, base)
                        self.check_no_text("1" + text, base)
                        self.check_no_text(text + "1", base)
                        self.check_no_text("-" + text, base)

    def test_leading_zeros(self):
        for base in (2, 10, 16, 36):
            self.check("00", base, 0)
            self.check("001", base, 1)
            self.check("-001", base, -1)
            self.check("0" * 900 + "101", base, base * base + 1)
            self.check("-" + "0" * 900 + "101", base, -base * base - 1)

    def test_minus_zero(self):
        for base in (2, 10, 16, 36):
            self.check("-0", base, 0)
            self.check("-000", base, 0)

    def test_texts_of_1000_bytes(self):
        for base in (2, 10, 16, 36):
            self.check("0" * 1000, base, 0)
            self.check("0" * 999 + "1", base, 1)
            self.check("-" + "0" * 998 + "1", base, -1)
            self.check("-" + "0" * 999, base, 0)
            self.check_no_fit("1" * 1000, base)
            self.check_no_fit(SIGNS[base - 1] * 1000, base)
            self.check_no_fit("-" + SIGNS[base - 1] * 999, base)

    def test_mixed_numbers_in_every_base(self):
        for base in range(2, 37):
            for number in (base - 1, base, base * base - 1, 2 ** 64, MIXED[0], MIXED[1] // 3):
                text = digits(number, base)
                self.check(text, base, number)
                self.check(text.upper(), base, number)
                self.check("-" + text, base, -number)


class Fit(ReadCase):
    def test_written_out(self):
        self.check("170141183460469231731687303715884105727", 10, HALF - 1)
        self.check("-170141183460469231731687303715884105728", 10, -HALF)
        self.check_no_fit("170141183460469231731687303715884105728", 10)
        self.check_no_fit("-170141183460469231731687303715884105729", 10)
        self.check("7" + "f" * 31, 16, HALF - 1)
        self.check("-8" + "0" * 31, 16, -HALF)
        self.check_no_fit("8" + "0" * 31, 16)
        self.check_no_fit("-8" + "0" * 30 + "1", 16)
        self.check("1" * 127, 2, HALF - 1)
        self.check("-1" + "0" * 127, 2, -HALF)
        self.check_no_fit("1" + "0" * 127, 2)
        self.check_no_fit("-1" + "0" * 126 + "1", 2)

    def test_the_ends_in_every_base(self):
        for base in range(2, 37):
            for zeros in ("", "000"):
                self.check(zeros + digits(HALF - 1, base), base, HALF - 1)
                self.check("-" + zeros + digits(HALF - 1, base), base, -HALF + 1)
                self.check("-" + zeros + digits(HALF, base), base, -HALF)
                self.check_no_fit(zeros + digits(HALF, base), base)
                self.check_no_fit(zeros + digits(HALF + 1, base), base)
                self.check_no_fit("-" + zeros + digits(HALF + 1, base), base)

    def test_far_from_fitting(self):
        for number in (2 ** 128 - 1, 2 ** 128, 2 ** 128 + 5, 2 ** 256, 2 ** 300 + 1):
            for base in (2, 10, 16, 36):
                self.check_no_fit(digits(number, base), base)
                self.check_no_fit("-" + digits(number, base), base)


class Refused(ReadCase):
    def test_other_n(self):
        for n in (0, 1001, 1002, 65536, 2 ** 31, 2 ** 32 - 1):
            for base in (2, 10, 36) + BASES_OUT:
                self.assertEqual(read(n, base, []), [-1], (n, base))

    def test_other_bases(self):
        for base in BASES_OUT:
            for text in ("0", "1", "00", "-1", "-", "", "z", "9" * 60, "1" * 1000):
                self.check_no_text(text, base)

    def test_no_digit_at_all(self):
        for base in (2, 10, 16, 36):
            for text in ("-", "--", "---", "+", "+-", " ", ".", "- "):
                self.check_no_text(text, base)

    def test_signs_in_the_wrong_place(self):
        for base in (2, 10, 16, 36):
            for text in ("--1", "+1", "+0", "-+1", "+-1", "1-", "1-1", "-1-", "1+1", "1+", "1--", "- 1"):
                self.check_no_text(text, base)

    def test_digits_that_are_not_of_the_base(self):
        rows = [("2", 2), ("102", 2), ("201", 2), ("-2", 2), ("a", 10), ("A", 10), ("1a", 10), ("a1", 10), ("g", 16),
                ("G", 16), ("fg", 16), ("0x10", 16), ("0b1", 2), ("z", 35), ("Z", 35), ("3", 3), ("12a4", 10)]
        for text, base in rows:
            self.check_no_text(text, base)

    def test_blanks_and_other_writing(self):
        for base in (2, 10, 16, 36):
            for text in (" 1", "1 ", "1 1", "\t1", "1\n", "\n", "1_0", "1_", "_1", "1.0", "1,0", "\x001", "1\x00"):
                self.check_no_text(text, base)

    def test_every_byte_that_is_no_digit(self):
        taken = letters_of(SIGNS + SIGNS.upper())
        others = [letter for letter in range(256) if letter not in taken]
        for letter in (47, 58, 64, 91, 96, 123, 128, 255):
            self.assertIn(letter, others)
        for base in (2, 10, 16, 36):
            for letter in others:
                texts = [[letter], [49, letter], [49, letter, 49], [45, letter], [45, 49, letter], [45, letter, 49]]
                if letter != 45:
                    texts.append([letter, 49])
                for text in texts:
                    kept = list(text)
                    self.assertEqual(read(len(text), base, text), [-1], (text, base))
                    self.assertEqual(text, kept)

    def test_no_text_comes_before_no_fit(self):
        for base in (2, 10, 16, 36):
            for text in ("1" * 200 + " ", " " + "1" * 200, "+" + "1" * 200, "--" + "1" * 200, "1" * 999 + "-",
                         "1" * 100 + "." + "1" * 100, "-" + "1" * 200 + "/", "1" * 999 + "\xe9"):
                self.check_no_text(text, base)
        self.check_no_text("1" * 500 + "2", 2)
        self.check_no_text("9" * 500 + "a", 10)
        for base in BASES_OUT:
            self.check_no_text("1" * 500, base)


class Form(ReadCase):
    def test_form_and_nothing_kept(self):
        texts = ("0", "1", "-1", "-0", "-", "zz", "1" * 127, "1" * 1000, " 1", "ff")
        calls = [(len(text), base, letters_of(text)) for text in texts for base in (1, 2, 10, 16, 36, 37)]
        calls += [(n, 10, []) for n in (0, 1001, 2 ** 32 - 1)]
        for call in calls:
            self.check_form(read, call)
        self.check_nothing_is_kept(read, calls)


if __name__ == "__main__":
    unittest.main()
