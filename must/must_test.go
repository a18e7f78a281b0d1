package must

import (
	"testing"

	"verdigris/api"
)

func step(n int, e api.Errno) (int, api.Errno) { return n, e }

func TestDo(t *testing.T) {
	for i, x := range []struct {
		f    func() int
		want int
		e    api.Errno
	}{
		{func() int { return Get(step(1, api.OK)) + Get(step(2, api.OK)) }, 3, api.OK},
		{func() int { return Get(step(1, api.ErrBig)) + Get(step(2, api.ErrZero)) }, 0, api.ErrBig},
		{func() int { Pass(api.OK); Pass(api.ErrNone); return 7 }, 0, api.ErrNone},
		{func() int { Hold(true, api.ErrArg); Hold(false, api.ErrForm); return 7 }, 0, api.ErrForm},
		{func() int { return []int{}[Get(step(0, api.OK))] }, 0, api.ErrFail},
	} {
		if got, e := Do(x.f); got != x.want || e != x.e {
			t.Errorf("%d: %d, %d", i, got, e)
		}
	}
}
