package rules

import (
	"bytes"
	"go/ast"
	"go/format"
	"go/parser"
	"go/token"
	"io/fs"
	"os"
	"path/filepath"
	"slices"
	"strconv"
	"strings"
	"testing"
)

// source: one Go file of the program.
type source struct {
	path string
	text []byte
	file *ast.File
	fset *token.FileSet
}

// folders of the project that are none of the program's packages.
func isOutside(dir string) bool {
	return slices.Contains([]string{".git", ".ci", "sharedtests"}, dir)
}

// walk the files of the program's packages (root's own files are no package's).
func walk(t *testing.T, do func(path string)) {
	t.Helper()
	err := filepath.WalkDir("..", func(path string, d fs.DirEntry, err error) error {
		if err != nil {
			return err
		}
		if d.IsDir() && isOutside(d.Name()) {
			return filepath.SkipDir
		}
		if !d.IsDir() && filepath.Dir(path) != ".." {
			do(path)
		}
		return nil
	})
	if err != nil {
		t.Fatal(err)
	}
}

// sources of the program, without tests: these may use all of Go.
func sources(t *testing.T) []source {
	t.Helper()
	var l []source
	walk(t, func(path string) {
		if !strings.HasSuffix(path, ".go") || strings.HasSuffix(path, "_test.go") {
			return
		}
		text, err := os.ReadFile(path)
		if err != nil {
			t.Fatal(err)
		}
		fset := token.NewFileSet()
		file, err := parser.ParseFile(fset, path, text, parser.ParseComments)
		if err != nil {
			t.Fatal(err)
		}
		l = append(l, source{path, text, file, fset})
	})
	if len(l) < 13 {
		t.Fatalf("only %d files of the program were found", len(l))
	}
	return l
}

func TestOnlyGoFilesInPackages(t *testing.T) {
	walk(t, func(path string) {
		if !strings.HasSuffix(path, ".go") {
			t.Errorf("rule 2: %s is no Go file", path)
		}
	})
}

func TestFolderNames(t *testing.T) {
	walk(t, func(path string) {
		dir := filepath.Base(filepath.Dir(path))
		if dir == "form" || dir == "try" || strings.HasPrefix(dir, "haywain") {
			t.Errorf("%s: a package folder may not be called so", path)
		}
	})
}

func TestImports(t *testing.T) {
	library := []string{"bytes", "cmp", "container/heap", "errors", "iter", "maps", "math", "math/bits", "slices", "sort", "strconv", "strings", "sync", "sync/atomic", "unicode", "unicode/utf8"}
	for _, s := range sources(t) {
		for _, i := range s.file.Imports {
			path, err := strconv.Unquote(i.Path.Value)
			if err != nil {
				t.Fatal(err)
			}
			if !slices.Contains(library, path) && !strings.HasPrefix(path, "haywain/") {
				t.Errorf("rule 1: %s imports %s", s.path, path)
			}
			if i.Name != nil && (i.Name.Name == "." || i.Name.Name == "_") {
				t.Errorf("rule 1: %s imports %s as %s", s.path, path, i.Name.Name)
			}
		}
	}
}

// TestLayersCallThoseAbove: a layer may call those above it in the document's table.
func TestLayersCallThoseAbove(t *testing.T) {
	order := []string{"api", "row", "span", "change", "versions", "certify", "view", "disk", "log", "store", "queue", "engine", "console"}
	for _, s := range sources(t) {
		layer := slices.Index(order, filepath.Base(filepath.Dir(s.path)))
		for _, i := range s.file.Imports {
			other := slices.Index(order, strings.TrimPrefix(strings.Trim(i.Path.Value, `"`), "haywain/"))
			if layer >= 0 && other >= layer {
				t.Errorf("%s imports %s, which isn't above it", s.path, i.Path.Value)
			}
		}
	}
}

func TestNoDirectives(t *testing.T) {
	for _, s := range sources(t) {
		for _, g := range s.file.Comments {
			for _, c := range g.List {
				if strings.HasPrefix(c.Text, "//go:") || strings.HasPrefix(c.Text, "// +build") {
					t.Errorf("rule 2: %s has %q", s.path, c.Text)
				}
			}
		}
	}
}

func TestLibraryNames(t *testing.T) {
	only := map[string][]string{"sync": {"Mutex", "RWMutex", "WaitGroup", "Once"}}
	never := map[string][]string{"iter": {"Pull", "Pull2"}}
	for _, s := range sources(t) {
		ast.Inspect(s.file, func(n ast.Node) bool {
			x, ok := n.(*ast.SelectorExpr)
			if !ok {
				return true
			}
			if of, ok := x.X.(*ast.Ident); ok {
				allowed, limited := only[of.Name]
				if limited && !slices.Contains(allowed, x.Sel.Name) || slices.Contains(never[of.Name], x.Sel.Name) {
					t.Errorf("rule 1: %s uses %s.%s", s.path, of.Name, x.Sel.Name)
				}
			}
			return true
		})
	}
}

func TestPackageLevelVariables(t *testing.T) {
	for _, s := range sources(t) {
		for _, d := range s.file.Decls {
			g, ok := d.(*ast.GenDecl)
			if !ok || g.Tok != token.VAR {
				continue
			}
			for _, spec := range g.Specs {
				checkVariable(t, s, spec.(*ast.ValueSpec))
			}
		}
	}
}

// checkVariable: its value is a table that is written out, or an error of one text.
func checkVariable(t *testing.T, s source, v *ast.ValueSpec) {
	t.Helper()
	if len(v.Values) != len(v.Names) {
		t.Errorf("rules 3a, 3b: %s: %s has no value of its own", s.path, v.Names[0].Name)
		return
	}
	for i, value := range v.Values {
		if !isTable(value) && !isNewError(value) {
			t.Errorf("rules 3a, 3b: %s: the value of %s is no table and no error", s.path, v.Names[i].Name)
		}
	}
}

func isTable(e ast.Expr) bool {
	l, ok := e.(*ast.CompositeLit)
	if !ok {
		return false
	}
	plain := true
	ast.Inspect(l, func(n ast.Node) bool {
		switch n.(type) {
		case *ast.MapType, *ast.FuncLit, *ast.CallExpr:
			plain = false
		}
		return plain
	})
	return plain
}

func isNewError(e ast.Expr) bool {
	c, ok := e.(*ast.CallExpr)
	if !ok {
		return false
	}
	f, ok := c.Fun.(*ast.SelectorExpr)
	if !ok {
		return false
	}
	of, ok := f.X.(*ast.Ident)
	return ok && of.Name == "errors" && f.Sel.Name == "New"
}

func TestNoStartUp(t *testing.T) {
	for _, s := range sources(t) {
		for _, d := range s.file.Decls {
			if f, ok := d.(*ast.FuncDecl); ok && f.Recv == nil && f.Name.Name == "init" {
				t.Errorf("rule 3: %s has an init", s.path)
			}
		}
	}
}

func TestFunctionsAreSmall(t *testing.T) {
	for _, s := range sources(t) {
		for _, d := range s.file.Decls {
			f, ok := d.(*ast.FuncDecl)
			if !ok {
				continue
			}
			if lines := s.fset.Position(f.End()).Line - s.fset.Position(f.Pos()).Line + 1; lines > 60 {
				t.Errorf("rule 9: %s: %s has %d lines", s.path, f.Name.Name, lines)
			}
		}
	}
}

func TestLayout(t *testing.T) {
	walk(t, func(path string) {
		text, err := os.ReadFile(path)
		if err != nil {
			t.Fatal(err)
		}
		if laid, err := format.Source(text); err != nil || !bytes.Equal(laid, text) {
			t.Errorf("rule 9: %s hasn't gofmt's layout: %v", path, err)
		}
	})
}
