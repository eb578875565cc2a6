package tests

import (
	"bytes"
	"go/ast"
	"go/format"
	"go/parser"
	"go/token"
	"os"
	"path/filepath"
	"slices"
	"strconv"
	"strings"
	"testing"
)

// What the program may import of the library.
var mayImport = []string{"bytes", "cmp", "container/heap", "errors", "iter", "maps", "math", "math/bits", "slices", "sort", "strconv", "strings", "sync", "sync/atomic", "unicode", "unicode/utf8"}

// mostLines is how many lines a function may have.
const mostLines = 60

func TestProgramKeepsToTheLanguage(t *testing.T) {
	paths, err := filepath.Glob("../impl/*")
	if err != nil || len(paths) != 10 {
		t.Fatal(paths, err)
	}
	for _, path := range paths {
		text, err := os.ReadFile(path)
		if err != nil {
			t.Fatal(err)
		}
		laidOut, err := format.Source(text)
		if err != nil || !bytes.Equal(text, laidOut) {
			t.Errorf("%s is not in gofmt's layout: %v", path, err)
		}
		files := token.NewFileSet()
		file, err := parser.ParseFile(files, path, text, parser.ParseComments)
		if err != nil {
			t.Fatal(err)
		}
		askFile(t, files, file)
	}
}

func askFile(t *testing.T, files *token.FileSet, file *ast.File) {
	for _, i := range file.Imports {
		if path, _ := strconv.Unquote(i.Path.Value); !slices.Contains(mayImport, path) {
			t.Errorf("%s imports %s", files.Position(i.Pos()), path)
		}
	}
	for _, group := range file.Comments {
		for _, c := range group.List {
			if strings.HasPrefix(c.Text, "//go:") || strings.HasPrefix(c.Text, "// +build") {
				t.Errorf("%s: %s", files.Position(c.Pos()), c.Text)
			}
		}
	}
	for _, d := range file.Decls {
		if f, ok := d.(*ast.FuncDecl); ok {
			if lines := files.Position(f.End()).Line - files.Position(f.Pos()).Line + 1; lines > mostLines {
				t.Errorf("%s: %s has %d lines", files.Position(f.Pos()), f.Name.Name, lines)
			}
		}
	}
	ast.Inspect(file, func(n ast.Node) bool {
		if m, ok := n.(*ast.MapType); ok {
			if v, ok := m.Value.(*ast.Ident); ok && (v.Name == "bool" || v.Name == "string") {
				t.Errorf("%s: a map of %ss", files.Position(m.Pos()), v.Name)
			}
		}
		return true
	})
}
