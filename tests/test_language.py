"""Part of the rules for the package's source: files, sizes, names, statements and expressions. Not every rule is here."""

import ast
import builtins
import pathlib
import re
import unittest

from widewhole import wholes

PACKAGE = pathlib.Path(wholes.__file__).parent
FILES = sorted(PACKAGE.glob("*.py"))
STATEMENTS = (ast.FunctionDef, ast.Assign, ast.AugAssign, ast.If, ast.While, ast.For, ast.Return, ast.Break,
              ast.Continue, ast.Pass, ast.Expr)
EXPRESSIONS = (ast.BinOp, ast.UnaryOp, ast.BoolOp, ast.Compare, ast.IfExp, ast.Call, ast.Attribute, ast.Subscript,
               ast.Slice, ast.ListComp, ast.Name, ast.Constant, ast.List, ast.Tuple, ast.Dict)
OPERATORS_OUT = (ast.Div, ast.Pow, ast.MatMult)
OWN_OF_PYTHON = ("len range enumerate zip min max sum abs sorted reversed int str bool list tuple dict isinstance ord "
                 "repr any all divmod").split()
METHODS = "append extend insert pop reverse copy count index get items keys values bit_length".split()
WORDS_OUT = ("type typing typing_extensions enum Enum IntEnum StrEnum Flag IntFlag Generic Protocol ABC ABCMeta "
             "namedtuple NamedTuple TypedDict TYPE_CHECKING abstractmethod").split()
PARTS_OUT = "dataclass overload contextmanager".split()


def trees():
    return [(path.name, ast.parse(path.read_text(encoding="ascii"))) for path in FILES]


def is_plain_value(node):
    if isinstance(node, ast.Constant):
        return type(node.value) in (int, str, bool, type(None))
    if isinstance(node, ast.UnaryOp):
        return isinstance(node.op, ast.USub) and is_plain_value(node.operand)
    if isinstance(node, ast.Tuple):
        return all(is_plain_value(part) for part in node.elts)
    return False


class Files(unittest.TestCase):
    def test_nothing_else_lies_in_the_package(self):
        names = sorted(path.name for path in PACKAGE.iterdir() if path.name != "__pycache__")
        self.assertEqual(names, ["__init__.py", "wholes.py"])

    def test_signs_and_sizes(self):
        for path in FILES:
            text = path.read_bytes().decode("ascii")
            self.assertTrue(all(sign == "\n" or " " <= sign <= "~" for sign in text), path.name)
            lines = text.split("\n")
            self.assertLessEqual(len(lines), 400)
            self.assertLessEqual(max(len(line) for line in lines), 120)

    def test_functions_are_short(self):
        for name, tree in trees():
            for node in ast.walk(tree):
                if isinstance(node, ast.FunctionDef):
                    self.assertLessEqual(node.end_lineno - node.lineno + 1, 40, (name, node.name))

    def test_words_that_stand_nowhere(self):
        for path in FILES:
            text = path.read_text(encoding="ascii")
            words = re.findall(r"[A-Za-z0-9_]+", text)
            self.assertEqual([word for word in words if word in WORDS_OUT], [], path.name)
            self.assertEqual([part for part in PARTS_OUT if part in text], [], path.name)


class Tops(unittest.TestCase):
    def test_docstring_functions_and_plain_values_each_bound_once(self):
        for name, tree in trees():
            bound = []
            self.assertIsNotNone(ast.get_docstring(tree), name)
            for node in tree.body[1:]:
                self.assertIsInstance(node, (ast.FunctionDef, ast.Assign), (name, node.lineno))
                if isinstance(node, ast.Assign):
                    self.assertTrue(is_plain_value(node.value), (name, node.lineno))
                    bound.append(node.targets[0].id)
                else:
                    bound.append(node.name)
            self.assertEqual(len(bound), len(set(bound)), name)


class Insides(unittest.TestCase):
    def test_statements_and_expressions(self):
        for name, tree in trees():
            for node in ast.walk(tree):
                where = (name, getattr(node, "lineno", 0), ast.dump(node)[:60])
                if isinstance(node, ast.stmt):
                    self.assertIsInstance(node, STATEMENTS, where)
                if isinstance(node, ast.Expr) and node is not tree.body[0]:
                    self.assertIsInstance(node.value, ast.Call, where)
                if isinstance(node, ast.expr):
                    self.assertIsInstance(node, EXPRESSIONS, where)
                if isinstance(node, ast.operator):
                    self.assertNotIsInstance(node, OPERATORS_OUT, where)
                if isinstance(node, (ast.Is, ast.IsNot)):
                    self.fail(where)
                if isinstance(node, ast.Constant):
                    self.assertIn(type(node.value), (int, str, bool, type(None)), where)

    def test_functions_are_plain(self):
        for name, tree in trees():
            for node in ast.walk(tree):
                if isinstance(node, ast.FunctionDef):
                    where = (name, node.name)
                    arguments = node.args
                    self.assertEqual(node.decorator_list, [], where)
                    self.assertFalse(arguments.vararg or arguments.kwarg or arguments.kwonlyargs, where)
                    self.assertFalse(arguments.posonlyargs, where)

    def test_names(self):
        for name, tree in trees():
            tops = [node.name for node in tree.body if isinstance(node, ast.FunctionDef)]
            tops += [node.targets[0].id for node in tree.body if isinstance(node, ast.Assign)]
            for function in [node for node in tree.body if isinstance(node, ast.FunctionDef)]:
                self.check_names(function, tops)

    def check_names(self, function, tops):
        own = [argument.arg for argument in function.args.args]
        names = [node for node in ast.walk(function) if isinstance(node, ast.Name)]
        own += [node.id for node in names if isinstance(node.ctx, ast.Store)]
        for word in own + [function.name]:
            self.assertRegex(word, r"\A[A-Za-z][A-Za-z0-9_]*\Z")
            self.assertNotIn(word, dir(builtins))
        for node in names:
            self.assertIn(node.id, own + tops + OWN_OF_PYTHON, (function.name, node.lineno))
        for node in ast.walk(function):
            if isinstance(node, ast.Attribute):
                self.assertIn(node.attr, METHODS, (function.name, node.lineno))


if __name__ == "__main__":
    unittest.main()
