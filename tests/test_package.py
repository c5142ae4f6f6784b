"""What the document's interface says of the package as a whole."""

import ast
import builtins
import contextlib
import inspect
import io
import pathlib
import unittest

import partfits
from partfits.voices import fits, shifts

FOLDER = pathlib.Path(partfits.__file__).parent
# None of these prints or reads anything.
ALLOWED = (
    "len range enumerate zip min max sum abs sorted reversed int str bool list tuple dict set frozenset isinstance "
    "ord repr any all divmod Exception ValueError TypeError KeyError IndexError LookupError ZeroDivisionError "
    "ArithmeticError OverflowError RuntimeError NotImplementedError AttributeError StopIteration"
).split()


class Interface(unittest.TestCase):
    def test_the_arguments_of_fits(self):
        names = list(inspect.signature(fits).parameters)
        self.assertEqual(names, ["voicelow", "voicehigh", "partlow", "parthigh", "t"])

    def test_the_arguments_of_shifts(self):
        names = list(inspect.signature(shifts).parameters)
        self.assertEqual(names, ["voicelow", "voicehigh", "partlow", "parthigh"])

    def test_the_arguments_may_be_named(self):
        self.assertEqual(fits(voicelow=50, voicehigh=60, partlow=45, parthigh=55, t=[5]), [1])
        self.assertEqual(shifts(voicelow=50, voicehigh=60, partlow=45, parthigh=55), [1, 5])

    def test_nothing_is_printed(self):
        out, err = io.StringIO(), io.StringIO()
        with contextlib.redirect_stdout(out), contextlib.redirect_stderr(err):
            for t in (0, 24, 25):
                fits(50, 60, 50, 60, [t])
                fits(60, 50, 50, 60, [t])
            shifts(50, 60, 50, 60)
            shifts(50, 60, 50, 61)
            shifts(60, 50, 50, 60)
        self.assertEqual((out.getvalue(), err.getvalue()), ("", ""))


class Files(unittest.TestCase):
    def texts(self):
        return [(path.name, path.read_bytes().decode("ascii")) for path in sorted(FOLDER.rglob("*.py"))]

    def test_the_folder_holds_python_files_alone(self):
        # Python leaves byte code there where nobody forbids it.
        found = [path for path in FOLDER.rglob("*") if "__pycache__" not in path.parts]
        self.assertEqual([path.name for path in found if path.suffix != ".py"], [])
        self.assertIn("__init__.py", [path.name for path in found])

    def test_nothing_is_imported(self):
        for name, text in self.texts():
            for node in ast.walk(ast.parse(text)):
                self.assertNotIsInstance(node, ast.Import, name)
                if isinstance(node, ast.ImportFrom):
                    self.assertEqual(node.module.split(".")[0], "partfits", name)

    def test_nothing_of_pythons_own_that_prints_or_reads(self):
        for name, text in self.texts():
            used = [node.id for node in ast.walk(ast.parse(text)) if isinstance(node, ast.Name)]
            refused = [word for word in used if hasattr(builtins, word) and word not in ALLOWED]
            self.assertEqual(refused, [], name)

    def test_sizes_and_signs(self):
        for name, text in self.texts():
            self.assertEqual([sign for sign in text if sign != "\n" and not " " <= sign <= "~"], [], name)
            self.assertLessEqual(len(text.splitlines()), 400, name)
            self.assertLessEqual(max(len(line) for line in text.splitlines()), 120, name)
            for node in ast.walk(ast.parse(text)):
                if isinstance(node, ast.FunctionDef):
                    self.assertLessEqual(node.end_lineno - node.lineno + 1, 40, node.name)


if __name__ == "__main__":
    unittest.main()
