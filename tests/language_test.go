package tests

import (
	"bytes"
	"go/ast"
	"go/format"
	"go/parser"
	"go/token"
	"os"
	"path/filepath"
	"strings"
	"testing"
)

const (
	allowedImports  = " bytes cmp container/heap errors iter maps math math/bits slices sort strconv strings sync sync/atomic unicode unicode/utf8 "
	mostLinesOfFunc = 60
)

// The program keeps to the language page; what a reader of its text can tell of that is asked here.
func TestProgramKeepsToItsLanguage(t *testing.T) {
	entries, err := os.ReadDir("../impl")
	if err != nil {
		t.Fatal(err)
	}
	for _, e := range entries {
		if !strings.HasSuffix(e.Name(), ".go") || strings.HasSuffix(e.Name(), "_test.go") {
			t.Errorf("%s: a file beside the Go files of the program", e.Name())
			continue
		}
		checkFile(t, filepath.Join("../impl", e.Name()))
	}
}

func checkFile(t *testing.T, path string) {
	text, err := os.ReadFile(path)
	if err != nil {
		t.Fatal(err)
	}
	if laid, err := format.Source(text); err != nil || !bytes.Equal(laid, text) {
		t.Errorf("%s: not in gofmt's layout", path)
	}
	set := token.NewFileSet()
	file, err := parser.ParseFile(set, path, text, parser.ParseComments)
	if err != nil {
		t.Fatal(err)
	}
	for _, i := range file.Imports {
		if !strings.Contains(allowedImports, " "+strings.Trim(i.Path.Value, `"`)+" ") {
			t.Errorf("%s: import %s", path, i.Path.Value)
		}
	}
	for _, g := range file.Comments {
		for _, c := range g.List {
			if strings.HasPrefix(c.Text, "//go:") || strings.HasPrefix(c.Text, "// +build") {
				t.Errorf("%s: %s", path, c.Text)
			}
		}
	}
	for _, d := range file.Decls {
		f, ok := d.(*ast.FuncDecl)
		if !ok {
			continue
		}
		if lines := set.Position(f.End()).Line - set.Position(f.Pos()).Line + 1; lines > mostLinesOfFunc {
			t.Errorf("%s: %s has %d lines", path, f.Name.Name, lines)
		}
	}
}
