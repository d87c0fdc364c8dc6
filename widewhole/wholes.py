"""Calls over whole numbers of 128 bits, each told as a number from 0 to 2^128 - 1."""

WIDTH = 128
WIDTH_BYTES = 16
PRODUCT_BYTES = 32
SPAN = 0x100000000000000000000000000000000
HALF = 0x80000000000000000000000000000000

# A double: its sign in bit 63, its exponent in bits 52 to 62, its fraction in the 52 bits below.
DOUBLE_SIGN = 0x8000000000000000
FRACTION_WIDTH = 52
FRACTION_SPAN = 0x10000000000000
EXPONENT_OF_ONE = 1023
EXPONENT_OF_NO_NUMBER = 2047

LONGEST_TEXT = 1000
NO_DIGIT = -1


def as_signed(a):
    return a - SPAN if a >= HALF else a


def as_told(a, plain):
    return a if plain == 1 else as_signed(a)


def fits_signed(number):
    return -HALF <= number < HALF


def fits_plain(number):
    return 0 <= number < SPAN


def fits_told(number, plain):
    return fits_plain(number) if plain == 1 else fits_signed(number)


def lowest_bytes(number, size):
    # A shift right keeps the sign, so a number below 0 gives its two's complement here.
    return [(number >> (8 * k)) & 255 for k in range(size)]


def wide_answer(first, number):
    return [first, WIDTH_BYTES] + lowest_bytes(number, WIDTH_BYTES)


def quotient_toward_zero(x, y):
    # Python's // goes down, which is toward 0 only where nothing is below 0.
    size = abs(x) // abs(y)
    return size if (x < 0) == (y < 0) else -size


def signed_result(op, x, y):
    if op == 0:
        return x + y
    if op == 1:
        return x - y
    if op == 2:
        return x * y
    if op == 6:
        return quotient_toward_zero(x, y)
    if op == 7:
        return x - y * quotient_toward_zero(x, y)
    if op == 8:
        return x // y
    return x % y


def plain_result(op, a, b):
    if op == 3:
        return a + b
    if op == 4:
        return a - b
    if op == 5:
        return a * b
    if op == 10:
        return a // b
    return a % b


def turned_left(a, distance):
    return (a << distance) | (a >> (WIDTH - distance))


def bits_result(op, a, b):
    distance = b & 127
    if op == 12:
        return a & b
    if op == 13:
        return a | b
    if op == 14:
        return a ^ b
    if op == 15:
        return a << distance
    if op == 16:
        return as_signed(a) >> distance
    if op == 17:
        return a >> distance
    return turned_left(a, distance)


def op(op, a, b):
    if op < 0 or op > 18:
        return [-2]
    if op >= 12:
        # Bits that are shifted out are no misfit: only the results of 0 to 11 can fail to fit.
        return wide_answer(0, bits_result(op, a, b))
    if op >= 6 and b == 0:
        return [-1]
    if op in (3, 4, 5, 10, 11):
        result = plain_result(op, a, b)
        return wide_answer(0 if fits_plain(result) else 1, result)
    result = signed_result(op, as_signed(a), as_signed(b))
    return wide_answer(0 if fits_signed(result) else 1, result)


def order(a, b, plain):
    x = as_told(a, plain)
    y = as_told(b, plain)
    if x < y:
        return [-1]
    if x > y:
        return [1]
    return [0]


def ones_among_bits(a):
    ones = 0
    for k in range(WIDTH):
        ones = ones + ((a >> k) & 1)
    return ones


def zeros_behind_last_one(a):
    if a == 0:
        return WIDTH
    # Of a and its opposite only a's lowest 1 stands in both.
    return (a & -a).bit_length() - 1


def bits(a, what):
    if what == 0:
        return [ones_among_bits(a)]
    if what == 1:
        return [WIDTH - a.bit_length()]
    if what == 2:
        return [zeros_behind_last_one(a)]
    if what == 3:
        return [ones_among_bits(a) & 1]
    return [-1]


def product(a, b):
    return [0, PRODUCT_BYTES] + lowest_bytes(a * b, PRODUCT_BYTES)


def divide(n, d):
    if d == 0:
        return [-1]
    quotient = n // d
    if not fits_plain(quotient):
        return [1]
    return wide_answer(0, quotient) + [WIDTH_BYTES] + lowest_bytes(n % d, WIDTH_BYTES)


def rounded_off(size, drop):
    kept = size >> drop
    # Half a unit is told by twice the rest, so that it's a whole number at every drop.
    twice_rest = (size - (kept << drop)) << 1
    unit = 1 << drop
    if twice_rest > unit or (twice_rest == unit and kept % 2 == 1):
        return kept + 1
    return kept


def leading_bits(size, width):
    drop = size.bit_length() - width
    if drop <= 0:
        return size << -drop
    return rounded_off(size, drop)


def double_of_size(size):
    if size == 0:
        return 0
    # The first 1 is among the leading bits though a double leaves it out: added to the exponent's place it makes
    # up for the one less there. A rounding that carries goes on to the next exponent in the same way.
    exponent = EXPONENT_OF_ONE + size.bit_length() - 1
    return ((exponent - 1) << FRACTION_WIDTH) + leading_bits(size, FRACTION_WIDTH + 1)


def double(a, plain):
    x = as_told(a, plain)
    size = double_of_size(abs(x))
    return [size + DOUBLE_SIGN if x < 0 else size]


def size_without_point(exponent, fraction):
    # Here are also the numbers below the least normal one, which have no 1 before their fraction.
    if exponent < EXPONENT_OF_ONE:
        return 0
    significand = FRACTION_SPAN + fraction
    places = exponent - EXPONENT_OF_ONE - FRACTION_WIDTH
    return significand << places if places >= 0 else significand >> -places


def whole(x, plain):
    exponent = (x % DOUBLE_SIGN) >> FRACTION_WIDTH
    if exponent == EXPONENT_OF_NO_NUMBER:
        return [-1]
    size = size_without_point(exponent, x % FRACTION_SPAN)
    number = -size if x >= DOUBLE_SIGN else size
    if not fits_told(number, plain):
        return [-1]
    return wide_answer(0, number)


def is_base(base):
    return 2 <= base <= 36


def digit_of(letter):
    if ord("0") <= letter <= ord("9"):
        return letter - ord("0")
    if ord("a") <= letter <= ord("z"):
        return letter - ord("a") + 10
    if ord("A") <= letter <= ord("Z"):
        return letter - ord("A") + 10
    return NO_DIGIT


def are_digits(letters, base):
    if len(letters) == 0:
        return False
    for letter in letters:
        digit = digit_of(letter)
        if digit == NO_DIGIT or digit >= base:
            return False
    return True


def size_of_digits(letters, base):
    size = 0
    for letter in letters:
        size = size * base + digit_of(letter)
    return size


def read(n, base, text):
    if n < 1 or n > LONGEST_TEXT or not is_base(base):
        return [-1]
    below_zero = text[0] == ord("-")
    letters = text[1:] if below_zero else text
    # A text of 1000 digits is gone through to its end, since a wrong sign is told before a number that doesn't fit.
    if not are_digits(letters, base):
        return [-1]
    size = size_of_digits(letters, base)
    number = -size if below_zero else size
    if not fits_signed(number):
        return [-2]
    return wide_answer(0, number)


def letter_of(digit):
    return ord("0") + digit if digit < 10 else ord("a") + digit - 10


def letters_from_lowest(size, base):
    letters = [letter_of(size % base)]
    rest = size // base
    while rest > 0:
        letters.append(letter_of(rest % base))
        rest = rest // base
    return letters


def write(a, base):
    if not is_base(base):
        return [-1]
    number = as_signed(a)
    letters = letters_from_lowest(abs(number), base)
    if number < 0:
        letters.append(ord("-"))
    letters.reverse()
    return [len(letters), len(letters)] + letters
