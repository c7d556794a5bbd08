package judge

import "spindle/api"

// never is the To of an operation that was not answered.
const never = -1

func answered(op api.Op) bool { return op.To != never }

// before tells whether a was answered ahead of the asking of b.
func before(a, b api.Op) bool { return answered(a) && a.To < b.From }

// refused tells with which error all three calls are refused.
func refused(first []byte, ops []api.Op) (why api.Errno) {
	defer func() {
		if given, ok := recover().(api.Errno); ok {
			why = given
		}
	}()
	if len(first) > api.MaxJudgedAt {
		return api.ErrMany
	}
	for _, op := range ops {
		mustBe(op, len(first))
	}
	return api.OK
}

// mustBe gives the look up, if an operation may not be on a device of that size.
func mustBe(op api.Op, size int) {
	mustBeTimed(op)
	mustBeInside(op, size)
	switch op.Kind {
	case api.OpRead:
		must(!op.Sync)
		must(len(op.Data) == 0 || answered(op))
		must(len(op.Data) == op.Len || !answered(op))
	case api.OpWrite:
		must(len(op.Data) == op.Len)
	case api.OpZero:
		must(len(op.Data) == 0)
	case api.OpFlush:
		must(len(op.Data) == 0)
		must(op.Off == 0 && op.Len == 0)
	default:
		must(false)
	}
}

func mustBeTimed(op api.Op) {
	must(op.From >= 0)
	must(!answered(op) || op.To >= op.From)
	must(answered(op) || !op.Sync)
}

// mustBeInside takes no sum of Off and Len, which could wrap.
func mustBeInside(op api.Op, size int) {
	must(op.Off >= 0 && op.Off <= size)
	must(op.Len >= 0 && op.Len <= size-op.Off)
}

func must(holds bool) {
	if !holds {
		panic(api.ErrOp)
	}
}
