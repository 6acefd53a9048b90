package tests

import (
	"go/ast"
	"go/format"
	"go/parser"
	"go/token"
	"os"
	"path/filepath"
	"strconv"
	"strings"
	"testing"
)

const allowedImports = " bytes cmp container/heap errors iter maps math math/bits slices sort strconv strings sync sync/atomic unicode unicode/utf8 "

const maxFunctionLines = 60

func programFiles(t *testing.T) []string {
	t.Helper()
	files, err := filepath.Glob("../impl/*")
	if err != nil || len(files) == 0 {
		t.Fatalf("no files of the program: %v", err)
	}
	return files
}

func TestLanguageLayout(t *testing.T) {
	own, _ := filepath.Glob("*.go")
	for _, name := range append(programFiles(t), own...) {
		source, err := os.ReadFile(name)
		if err != nil {
			t.Fatal(err)
		}
		laid, err := format.Source(source)
		if err != nil || string(laid) != string(source) {
			t.Errorf("%s: not in gofmt's layout (%v)", name, err)
		}
	}
}

func TestLanguageOfProgram(t *testing.T) {
	for _, name := range programFiles(t) {
		if !strings.HasSuffix(name, ".go") {
			t.Errorf("%s: no Go file", name)
			continue
		}
		fset := token.NewFileSet()
		file, err := parser.ParseFile(fset, name, nil, parser.ParseComments)
		if err != nil {
			t.Fatal(err)
		}
		checkImports(t, name, file)
		checkComments(t, name, file)
		checkLengths(t, fset, file)
	}
}

func checkImports(t *testing.T, name string, file *ast.File) {
	t.Helper()
	for _, i := range file.Imports {
		path, err := strconv.Unquote(i.Path.Value)
		if err != nil || !strings.Contains(allowedImports, " "+path+" ") {
			t.Errorf("%s: imports %s", name, i.Path.Value)
		}
	}
}

func checkComments(t *testing.T, name string, file *ast.File) {
	t.Helper()
	for _, group := range file.Comments {
		for _, c := range group.List {
			if strings.HasPrefix(c.Text, "//go:") || strings.HasPrefix(c.Text, "// +build") {
				t.Errorf("%s: has the line %s", name, c.Text)
			}
		}
	}
}

func checkLengths(t *testing.T, fset *token.FileSet, file *ast.File) {
	t.Helper()
	for _, d := range file.Decls {
		f, ok := d.(*ast.FuncDecl)
		if !ok {
			continue
		}
		lines := fset.Position(f.End()).Line - fset.Position(f.Pos()).Line + 1
		if lines > maxFunctionLines {
			t.Errorf("%s: %s has %d lines", fset.Position(f.Pos()).Filename, f.Name.Name, lines)
		}
	}
}
