package rules

import (
	"go/ast"
	"path/filepath"
	"testing"
)

// functionOf a package of the program.
func functionOf(t *testing.T, pack, name string) *ast.FuncDecl {
	t.Helper()
	for _, s := range sources(t) {
		if filepath.Base(filepath.Dir(s.path)) != pack {
			continue
		}
		for _, d := range s.file.Decls {
			if f, ok := d.(*ast.FuncDecl); ok && f.Recv == nil && f.Name.Name == name {
				return f
			}
		}
	}
	t.Fatalf("%s.%s isn't there", pack, name)
	return nil
}

// has the function a node of that kind?
func has(f *ast.FuncDecl, is func(ast.Node) bool) bool {
	found := false
	ast.Inspect(f, func(n ast.Node) bool {
		found = found || is(n)
		return !found
	})
	return found
}

// isRangeOverLength: a range over len(..), which is an integer.
func isRangeOverLength(n ast.Node) bool {
	r, ok := n.(*ast.RangeStmt)
	if !ok {
		return false
	}
	c, ok := r.X.(*ast.CallExpr)
	if !ok {
		return false
	}
	f, ok := c.Fun.(*ast.Ident)
	return ok && f.Name == "len"
}

func isClosure(n ast.Node) bool {
	_, ok := n.(*ast.FuncLit)
	return ok
}

func TestWaysOfStage1(t *testing.T) {
	if !has(functionOf(t, "row", "Name"), isRangeOverLength) {
		t.Error("Ways, stage 1: the bytes of a name are no range over an integer")
	}
	if !has(functionOf(t, "span", "Any"), isClosure) {
		t.Error("Ways, stage 1: spans aren't looked through by a closure")
	}
}
