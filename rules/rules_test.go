// Package rules_test checks, in every layer, those rules of shared/LANGUAGE.md that the text of the code shows (imports, printing, compiler comments, length of functions, layout), and the map of shared/DOC.md.
package rules_test

import (
	"bytes"
	"go/ast"
	"go/format"
	"go/parser"
	"go/token"
	"os"
	"path/filepath"
	"slices"
	"strconv"
	"strings"
	"testing"
)

const module = "interlock/"

// longest is how many lines a function has at most.
const longest = 60

var library = strings.Fields("bytes cmp container/heap errors iter maps math math/bits slices sort strconv strings sync sync/atomic unicode unicode/utf8")

// calls is the map: which packages of the project each layer may call.
var calls = map[string]string{
	"api":     "",
	"bits":    "",
	"ir":      "api bits",
	"text":    "api ir",
	"state":   "api ir",
	"play":    "api state",
	"clock":   "",
	"order":   "api",
	"race":    "api clock",
	"weak":    "api state order",
	"cfg":     "api bits",
	"seg":     "api ir",
	"loop":    "api bits cfg",
	"flow":    "api bits cfg",
	"value":   "api bits ir cfg",
	"live":    "api ir cfg flow",
	"fold":    "api bits ir cfg value live",
	"loads":   "api bits ir cfg flow",
	"stores":  "api bits ir cfg flow",
	"swap":    "api ir seg",
	"lift":    "api bits ir cfg seg loop",
	"edit":    "api seg state",
	"pipe":    "api ir fold loads stores swap lift edit",
	"explore": "api state race",
	"lab":     "api text play race pipe explore",
}

// source is a file of a layer, as it is written and as it is read.
type source struct {
	layer string
	path  string
	text  []byte
	fset  *token.FileSet
	file  *ast.File
}

// sources are all files of the layers' packages but their tests.
func sources(t *testing.T) []source {
	t.Helper()
	var all []source
	for layer := range calls {
		paths, err := filepath.Glob(filepath.Join("..", layer, "*.go"))
		if err != nil || len(paths) == 0 {
			t.Fatalf("package %s: no Go files (%v)", layer, err)
		}
		for _, path := range paths {
			if !strings.HasSuffix(path, "_test.go") {
				all = append(all, read(t, layer, path))
			}
		}
	}
	return all
}

func read(t *testing.T, layer, path string) source {
	t.Helper()
	text, err := os.ReadFile(path)
	if err != nil {
		t.Fatal(err)
	}
	fset := token.NewFileSet()
	file, err := parser.ParseFile(fset, path, text, parser.ParseComments)
	if err != nil {
		t.Fatal(err)
	}
	return source{layer, path, text, fset, file}
}

func TestImports(t *testing.T) {
	for _, s := range sources(t) {
		for _, i := range s.file.Imports {
			path, err := strconv.Unquote(i.Path.Value)
			if err != nil {
				t.Fatal(err)
			}
			below, ours := strings.CutPrefix(path, module)
			if ours && !slices.Contains(strings.Fields(calls[s.layer]), below) {
				t.Errorf("%s: layer %s does not stand on %s", s.path, s.layer, below)
			}
			if !ours && !slices.Contains(library, path) {
				t.Errorf("%s: %s may not be imported", s.path, path)
			}
		}
	}
}

// No name of the language or of a package that may be imported prints or pulls.
func TestNames(t *testing.T) {
	for _, s := range sources(t) {
		ast.Inspect(s.file, func(n ast.Node) bool {
			switch x := n.(type) {
			case *ast.CallExpr:
				if f, ok := x.Fun.(*ast.Ident); ok && (f.Name == "print" || f.Name == "println") {
					t.Errorf("%s: %s", s.fset.Position(x.Pos()), f.Name)
				}
			case *ast.SelectorExpr:
				if p, ok := x.X.(*ast.Ident); ok && p.Name == "iter" && strings.HasPrefix(x.Sel.Name, "Pull") {
					t.Errorf("%s: iter.%s", s.fset.Position(x.Pos()), x.Sel.Name)
				}
			}
			return true
		})
	}
}

func TestCommentsThatSteerTheCompiler(t *testing.T) {
	for _, s := range sources(t) {
		for _, group := range s.file.Comments {
			for _, c := range group.List {
				if strings.HasPrefix(c.Text, "//go:") || strings.HasPrefix(c.Text, "// +build") {
					t.Errorf("%s: %s", s.fset.Position(c.Pos()), c.Text)
				}
			}
		}
	}
}

func TestFunctionsAreShort(t *testing.T) {
	for _, s := range sources(t) {
		for _, d := range s.file.Decls {
			f, ok := d.(*ast.FuncDecl)
			if !ok {
				continue
			}
			lines := s.fset.Position(f.End()).Line - s.fset.Position(f.Pos()).Line + 1
			if lines > longest {
				t.Errorf("%s: %s has %d lines", s.path, f.Name.Name, lines)
			}
		}
	}
}

func TestLayout(t *testing.T) {
	for _, s := range sources(t) {
		want, err := format.Source(s.text)
		if err != nil || !bytes.Equal(want, s.text) {
			t.Errorf("%s is not laid out by gofmt (%v)", s.path, err)
		}
	}
}

func TestNothingBesideGoFiles(t *testing.T) {
	for layer := range calls {
		entries, err := os.ReadDir(filepath.Join("..", layer))
		if err != nil {
			t.Fatal(err)
		}
		for _, e := range entries {
			if e.IsDir() || !strings.HasSuffix(e.Name(), ".go") {
				t.Errorf("%s/%s is not a Go file", layer, e.Name())
			}
		}
	}
}
