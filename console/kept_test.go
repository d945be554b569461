package console

import "testing"

// TestVacuum: no answer tells what is kept, so the engine is asked.
func TestVacuum(t *testing.T) {
	c, err := start()
	if err != nil {
		t.Fatal(err)
	}
	for _, x := range []struct {
		line, answer string
		kept         int
	}{
		{"begin 0", "ok", 0}, {"put 0 a x", "ok", 0}, {"commit 0", "1", 1}, {"begin 1", "ok", 1},
		{"begin 0", "ok", 1}, {"put 0 a y", "ok", 1}, {"commit 0", "2", 2}, {"begin 0", "ok", 2}, {"delete 0 a", "ok", 2}, {"commit 0", "3", 3},
		{"vacuum", "ok", 3}, {"vacuum 0", "error 4", 3}, {"commit 1", "1", 3}, {"save", "ok", 3}, {"rows", "-", 3}, {"vacuum", "ok", 0},
	} {
		if answer := c.answer(x.line); answer != x.answer || c.engine.Kept() != x.kept {
			t.Fatalf("M1: %q is answered by %q, and %d are kept, not %q, %d", x.line, answer, c.engine.Kept(), x.answer, x.kept)
		}
	}
}
