package rules

import (
	"go/ast"
	"go/format"
	"go/parser"
	"go/token"
	"os"
	"path/filepath"
	"slices"
	"strconv"
	"strings"
	"testing"
)

const (
	module   = "gleaning"
	mostLine = 60
)

// library are the packages of Go's library that the program may use.
var library = strings.Fields("bytes cmp container/heap errors iter maps math math/bits slices sort strconv strings sync sync/atomic unicode unicode/utf8")

// source is a file of the program, as text and as a tree.
type source struct {
	path string
	text []byte
	tree *ast.File
	set  *token.FileSet
}

// sources are the files of a package, its tests left out.
func sources(t *testing.T, name string) []source {
	t.Helper()
	paths, err := filepath.Glob(filepath.Join("..", name, "*"))
	if err != nil || len(paths) == 0 {
		t.Fatal("no files of package", name, err)
	}
	var out []source
	for _, path := range paths {
		if strings.HasSuffix(path, "_test.go") {
			continue
		}
		text, err := os.ReadFile(path)
		if err != nil {
			t.Fatal(err)
		}
		set := token.NewFileSet()
		tree, err := parser.ParseFile(set, path, text, parser.ParseComments)
		if err != nil {
			t.Fatal(err)
		}
		out = append(out, source{path, text, tree, set})
	}
	return out
}

// eachSource hands on each file of the layers.
func eachSource(t *testing.T, do func(stage, source)) {
	t.Helper()
	for _, s := range stages {
		for _, f := range sources(t, s.name) {
			do(s, f)
		}
	}
}

func TestWays(t *testing.T) {
	for _, s := range stages[:landed] {
		miss, err := WaysMissing("..", module, []string{s.name}, strings.Fields(s.ways))
		if err != nil {
			t.Fatal(err)
		}
		if len(miss) != 0 {
			t.Errorf("package %s leans on none of: %v", s.name, miss)
		}
	}
}

func TestImports(t *testing.T) {
	eachSource(t, func(s stage, f source) {
		for _, x := range f.tree.Imports {
			path, _ := strconv.Unquote(x.Path.Value)
			if own, ok := strings.CutPrefix(path, module+"/"); ok {
				if !slices.Contains(strings.Fields(s.calls), own) {
					t.Errorf("%s calls package %s, which is not below it", f.path, own)
				}
			} else if !slices.Contains(library, path) {
				t.Errorf("%s imports %s", f.path, path)
			}
		}
	})
}

func TestFormat(t *testing.T) {
	eachSource(t, func(s stage, f source) {
		if made, err := format.Source(f.text); err != nil || string(made) != string(f.text) {
			t.Errorf("%s is not as gofmt lays it out", f.path)
		}
		for _, group := range f.tree.Comments {
			for _, c := range group.List {
				if strings.HasPrefix(c.Text, "//go:") || strings.HasPrefix(c.Text, "// +build") {
					t.Errorf("%s has the line %s", f.path, c.Text)
				}
			}
		}
	})
}

func TestFunctionsAreSmall(t *testing.T) {
	eachSource(t, func(s stage, f source) {
		for _, d := range f.tree.Decls {
			if x, ok := d.(*ast.FuncDecl); ok {
				if n := f.set.Position(x.End()).Line - f.set.Position(x.Pos()).Line + 1; n > mostLine {
					t.Errorf("%s: %s has %d lines", f.path, x.Name.Name, n)
				}
			}
		}
	})
}

func TestPackageLevel(t *testing.T) {
	eachSource(t, func(s stage, f source) {
		for _, d := range f.tree.Decls {
			x, ok := d.(*ast.GenDecl)
			if !ok || x.Tok != token.VAR {
				continue
			}
			for _, spec := range x.Specs {
				for _, v := range spec.(*ast.ValueSpec).Values {
					if _, ok := v.(*ast.CompositeLit); !ok {
						t.Errorf("%s: a variable at package level that is no table", f.path)
					}
				}
				if len(spec.(*ast.ValueSpec).Values) == 0 {
					t.Errorf("%s: a variable at package level without a value", f.path)
				}
			}
		}
	})
}

func TestNoGoroutines(t *testing.T) {
	eachSource(t, func(s stage, f source) {
		ast.Inspect(f.tree, func(n ast.Node) bool {
			switch n.(type) {
			case *ast.GoStmt, *ast.ChanType, *ast.SelectStmt:
				t.Errorf("%s has a goroutine, or a channel", f.path)
			}
			return true
		})
	})
}
