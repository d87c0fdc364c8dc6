"""What the document says of the whole program: its interface, the form of every answer, and that nothing is kept."""

import copy
import inspect
import pathlib
import subprocess
import sys
import unittest

from support import HALF, MIXED, TOP
from widewhole import wholes

TOP_FOLDER = pathlib.Path(wholes.__file__).parent.parent
NUMBERS = (0, 1, 10, 2 ** 64, HALF - 1, HALF, TOP) + MIXED
TEXTS = ("0", "-12", "zZ", "-", "1" * 1000, " 1")
PARAMETERS = {
    "op": ["op", "a", "b"], "order": ["a", "b", "plain"], "bits": ["a", "what"], "product": ["a", "b"],
    "divide": ["n", "d"], "double": ["a", "plain"], "whole": ["x", "plain"], "read": ["n", "base", "text"],
    "write": ["a", "base"],
}
# How long a list is by the number it begins with: one alone, or with the bytes that are told and their counts.
LENGTHS = {
    "op": {0: 18, 1: 18, -1: 1, -2: 1}, "order": {-1: 1, 0: 1, 1: 1}, "product": {0: 34},
    "divide": {0: 35, 1: 1, -1: 1}, "whole": {0: 18, -1: 1}, "read": {0: 18, -1: 1, -2: 1},
}
# An import of what is loaded already makes no event, so what the program's own files ask for is noted besides.
QUIET = """
import builtins, sys
imported = []
python_import = builtins.__import__
def noting_import(name, globals=None, *others):
    if globals is not None and str(globals.get("__name__")).startswith("widewhole"):
        imported.append(name)
    return python_import(name, globals, *others)
builtins.__import__ = noting_import
from widewhole import wholes
calls = CALLS
functions = {name: getattr(wholes, name) for name in NAMES}
seen = []
sys.addaudithook(lambda event, arguments: seen.append(event))
for name, arguments in calls:
    functions[name](*arguments)
events = list(seen)
assert events == [], events
assert imported == [], imported
"""


def all_calls():
    rows = [("op", [number, a, b]) for number in range(-1, 20) for a in NUMBERS for b in NUMBERS]
    rows += [("order", [a, b, plain]) for a in NUMBERS for b in NUMBERS for plain in (0, 1)]
    rows += [("bits", [a, what]) for a in NUMBERS for what in range(-1, 5)]
    rows += [("product", [a, b]) for a in NUMBERS for b in NUMBERS]
    rows += [("divide", [n, d]) for n in NUMBERS + (2 ** 128, 2 ** 256 - 1) for d in NUMBERS]
    rows += [("double", [a, plain]) for a in NUMBERS for plain in (0, 1)]
    rows += [("whole", [x % 2 ** 64, plain]) for x in NUMBERS + (2 ** 62, 0xFFF << 52) for plain in (0, 1)]
    rows += [("read", [len(text), base, [ord(sign) for sign in text]]) for text in TEXTS for base in (1, 2, 10, 36, 37)]
    rows += [("read", [n, 10, []]) for n in (0, 1001, 2 ** 32 - 1)]
    rows += [("write", [a, base]) for a in NUMBERS for base in (1, 2, 3, 10, 36, 37)]
    return rows


def answers(rows):
    return [getattr(wholes, name)(*arguments) for name, arguments in rows]


class Program(unittest.TestCase):
    def test_every_function_is_there_with_its_parameters(self):
        for name, parameters in PARAMETERS.items():
            function = getattr(wholes, name)
            self.assertTrue(inspect.isfunction(function), name)
            told = inspect.signature(function).parameters.values()
            self.assertEqual([parameter.name for parameter in told], parameters)
            self.assertTrue(all(parameter.kind is parameter.POSITIONAL_OR_KEYWORD for parameter in told), name)
            self.assertTrue(all(parameter.default is parameter.empty for parameter in told), name)

    def test_parameters_may_be_named(self):
        for name, arguments in all_calls()[::7]:
            function = getattr(wholes, name)
            self.assertEqual(function(**dict(zip(PARAMETERS[name], arguments))), function(*arguments), name)

    def test_every_answer_is_a_list_of_whole_numbers(self):
        rows = all_calls()
        self.assertEqual({name for name, arguments in rows}, set(PARAMETERS))
        for (name, arguments), got in zip(rows, answers(rows)):
            self.assertIs(type(got), list, (name, arguments))
            self.assertTrue(all(type(number) is int for number in got), (name, arguments))

    def test_every_answer_has_its_length(self):
        rows = all_calls()
        for (name, arguments), got in zip(rows, answers(rows)):
            if name in LENGTHS:
                self.assertEqual(len(got), LENGTHS[name][got[0]], (name, arguments))
            elif name == "write":
                self.assertEqual(len(got), 1 if got[0] < 0 else got[0] + 2, arguments)
            else:
                self.assertEqual(len(got), 1, (name, arguments))

    def test_every_answered_byte_is_one(self):
        rows = all_calls()
        for (name, arguments), got in zip(rows, answers(rows)):
            if len(got) > 1:
                self.assertTrue(all(0 <= number <= 255 for number in got[1:]), (name, arguments))

    def test_what_is_handed_in_stays_as_it_was(self):
        rows = all_calls()
        kept = copy.deepcopy(rows)
        answers(rows)
        self.assertEqual(rows, kept)

    def test_the_same_answers_after_other_calls(self):
        rows = all_calls()
        first = answers(rows)
        kept = copy.deepcopy(first)
        for got in first:
            got.clear()
        self.assertEqual(answers(rows[::-1])[::-1], kept)
        # Each call once more between those of the other functions.
        mixed = [(k * 7919) % len(rows) for k in range(len(rows))]
        self.assertEqual(answers([rows[k] for k in mixed]), [kept[k] for k in mixed])

    def test_no_answer_is_what_was_handed_in(self):
        text = [49, 48]
        got = wholes.read(2, 10, text)
        got.append(1)
        self.assertEqual(text, [49, 48])

    def test_nothing_is_kept_at_the_top_of_the_module(self):
        before = {name: repr(value) for name, value in vars(wholes).items() if name != "__builtins__"}
        answers(all_calls())
        after = {name: repr(value) for name, value in vars(wholes).items() if name != "__builtins__"}
        self.assertEqual(before, after)

    def test_it_prints_reads_and_imports_nothing(self):
        source = QUIET.replace("CALLS", repr(all_calls())).replace("NAMES", repr(list(PARAMETERS)))
        done = subprocess.run([sys.executable, "-B", "-"], input=source, cwd=TOP_FOLDER, capture_output=True, text=True)
        self.assertEqual((done.returncode, done.stdout, done.stderr), (0, "", ""))


if __name__ == "__main__":
    unittest.main()
