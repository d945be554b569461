package rules

import (
	"go/ast"
	"go/types"
	"path/filepath"
	"slices"
	"testing"
)

// functionOf a package of the program, or a method of that name.
func functionOf(t *testing.T, pack, name string) *ast.FuncDecl {
	t.Helper()
	for _, s := range sources(t) {
		if filepath.Base(filepath.Dir(s.path)) != pack {
			continue
		}
		for _, d := range s.file.Decls {
			if f, ok := d.(*ast.FuncDecl); ok && f.Name.Name == name {
				return f
			}
		}
	}
	t.Fatalf("%s.%s isn't there", pack, name)
	return nil
}

// has the function a node of that kind?
func has(f *ast.FuncDecl, is func(ast.Node) bool) bool {
	found := false
	ast.Inspect(f, func(n ast.Node) bool {
		found = found || is(n)
		return !found
	})
	return found
}

// isRangeOverLength: a range over len(..), which is an integer.
func isRangeOverLength(n ast.Node) bool {
	r, ok := n.(*ast.RangeStmt)
	if !ok {
		return false
	}
	c, ok := r.X.(*ast.CallExpr)
	if !ok {
		return false
	}
	f, ok := c.Fun.(*ast.Ident)
	return ok && f.Name == "len"
}

func isClosure(n ast.Node) bool {
	_, ok := n.(*ast.FuncLit)
	return ok
}

// isRangeOverCallOf a function, by its name with its package's: what a library's answers is a function that is ranged over.
func isRangeOverCallOf(name string) func(ast.Node) bool {
	return func(n ast.Node) bool {
		r, ok := n.(*ast.RangeStmt)
		if !ok {
			return false
		}
		c, ok := r.X.(*ast.CallExpr)
		return ok && types.ExprString(c.Fun) == name
	}
}

// isCallOf a function, by its name.
func isCallOf(name string) func(ast.Node) bool {
	return func(n ast.Node) bool {
		c, ok := n.(*ast.CallExpr)
		return ok && types.ExprString(c.Fun) == name
	}
}

// isStepsOfMethods: a list of functions that are methods as values, all of them by these names.
func isStepsOfMethods(names ...string) func(ast.Node) bool {
	return func(n ast.Node) bool {
		l, ok := n.(*ast.CompositeLit)
		if !ok || types.ExprString(l.Type) != "[]func() error" {
			return false
		}
		var given []string
		for _, e := range l.Elts {
			given = append(given, types.ExprString(e))
		}
		return !slices.ContainsFunc(names, func(name string) bool { return !slices.Contains(given, name) })
	}
}

// fieldOf a struct of a package: its type, as it is written.
func fieldOf(t *testing.T, pack, name, field string) string {
	t.Helper()
	found := ""
	for _, s := range sources(t) {
		if filepath.Base(filepath.Dir(s.path)) != pack {
			continue
		}
		ast.Inspect(s.file, func(n ast.Node) bool {
			of, ok := n.(*ast.TypeSpec)
			if !ok || of.Name.Name != name {
				return true
			}
			for _, f := range of.Type.(*ast.StructType).Fields.List {
				if len(f.Names) == 1 && f.Names[0].Name == field {
					found = types.ExprString(f.Type)
				}
			}
			return false
		})
	}
	return found
}

// isAssertionTo a type, by its name.
func isAssertionTo(name string) func(ast.Node) bool {
	return func(n ast.Node) bool {
		a, ok := n.(*ast.TypeAssertExpr)
		return ok && a.Type != nil && types.ExprString(a.Type) == name
	}
}

func TestWaysOfStage1(t *testing.T) {
	if !has(functionOf(t, "row", "Name"), isRangeOverLength) {
		t.Error("Ways, stage 1: the bytes of a name are no range over an integer")
	}
	if !has(functionOf(t, "span", "Any"), isClosure) {
		t.Error("Ways, stage 1: spans aren't looked through by a closure")
	}
}

func TestWaysOfStage2(t *testing.T) {
	if of := fieldOf(t, "versions", "Versions", "rows"); of != "map[string][]version" {
		t.Errorf("Ways, stage 2: versions stand in %q, not in a map", of)
	}
	if !has(functionOf(t, "versions", "Vacuum"), isCallOf("delete")) {
		t.Error("Ways, stage 2: nothing is deleted from the map")
	}
	if !has(functionOf(t, "versions", "last"), isRangeOverCallOf("slices.Backward")) {
		t.Error("Ways, stage 2: versions aren't gone over backwards by a range over a function")
	}
}

func TestWaysOfStage3(t *testing.T) {
	if !has(functionOf(t, "view", "place"), isClosure) {
		t.Error("Ways, stage 3: a row's place isn't found by a closure")
	}
}

func TestWaysOfStage4(t *testing.T) {
	for _, name := range []string{"Write", "Flush", "Restart"} {
		if !has(functionOf(t, "disk", name), isCallOf("copy")) {
			t.Errorf("Ways, stage 4: sectors aren't copied by %s", name)
		}
	}
	if !has(functionOf(t, "log", "run"), isStepsOfMethods("a.cut", "a.layRest", "a.layEnd", "a.layFirst")) {
		t.Error("Ways, stage 4: the steps of adding a deed are no methods as values")
	}
	if !has(functionOf(t, "store", "layText"), isRangeOverCallOf("slices.Chunk")) {
		t.Error("Ways, stage 4: all rows aren't cut by a range over a function")
	}
}

func TestWaysOfStage5(t *testing.T) {
	for _, name := range []string{"Send", "Receive"} {
		f := functionOf(t, "queue", name)
		if !has(f, isCallOf("whole")) || !has(f, isClosure) {
			t.Errorf("Ways, stage 5: what is all or nothing in %s is no closure", name)
		}
	}
}

func TestWaysOfStage6(t *testing.T) {
	if of := fieldOf(t, "engine", "Engine", "sessions"); of != "[api.Sessions]*view.View" {
		t.Errorf("Ways, stage 6: sessions stand in %q, not in an array", of)
	}
}

func TestWaysOfStage7(t *testing.T) {
	if !has(functionOf(t, "console", "errorText"), isAssertionTo("api.Errno")) {
		t.Error("Ways, stage 7: an error's number isn't told by an assertion")
	}
}
