package judge_test

import "testing"

// zeros is the device of the chapter's examples.
func zeros() []byte { return []byte("0000") }

// P17.3, examples 1 to 3.
func TestExamplesOfOrder(t *testing.T) {
	call{first: zeros(), ops: list(write("a", 0, 3), read("a", 1, 2))}.wantOrder(t, "example 1, a", 0, 1)
	call{first: zeros(), ops: list(write("a", 0, 3), read("0", 1, 2))}.wantOrder(t, "example 1, 0", 1, 0)
	call{first: zeros(), ops: list(write("a", 0, 1), read("0", 2, 3))}.wantNone(t, "example 2")
	call{first: zeros(), ops: list(write("a", 0, never), read("0", 2, 3))}.wantOrder(t, "example 2, not answered", 1)
	call{first: zeros(), ops: list(write("a", 0, 9), write("b", 0, 9), read("a", 10, 11), read("b", 12, 13))}.wantNone(t, "example 3")
	call{first: zeros(), ops: list(write("a", 0, 9), write("b", 0, never), read("a", 10, 11), read("b", 12, 13))}.wantOrder(t, "example 3, not answered", 0, 2, 1, 3)
}

// P17.2, example 4.
func TestExamplesOfFollow(t *testing.T) {
	ops := list(write("a", 0, 3), read("a", 1, 2))
	call{first: zeros(), ops: ops, order: numbers(1, 0)}.wantWrong(t, "example 4", 0)
	call{first: zeros(), ops: ops, order: numbers(0, 0)}.wantWrong(t, "example 4, twice", 1)
	call{first: zeros(), ops: ops, order: numbers(0)}.wantWrong(t, "example 4, its length", 1)
	call{first: zeros(), ops: ops, order: numbers(0, 1)}.wantFollow(t, "example 1's order", []byte("a000"))
}

// P17.4, example 5.
func TestExamplesOfSurvives(t *testing.T) {
	c := call{first: zeros(), ops: list(safely(write("a", 0, 1)), write("b", 2, 3)), order: numbers(0, 1)}
	c.after = []byte("a000")
	c.wantTaken(t, "example 5")
	c.after = []byte("b000")
	c.wantTaken(t, "example 5")
	c.after = []byte("0000")
	c.wantNot(t, "example 5", 0)
}
