package errno

import (
	"testing"

	"facet/api"
)

func TestLeast(t *testing.T) { // the order of errors
	for _, c := range []struct {
		list []api.Errno
		want api.Errno
	}{
		{nil, api.OK},
		{[]api.Errno{api.OK}, api.OK},
		{[]api.Errno{api.OK, api.OK}, api.OK},
		{[]api.Errno{api.ErrOver, api.OK}, api.ErrOver},
		{[]api.Errno{api.OK, api.ErrOver}, api.ErrOver},
		{[]api.Errno{api.ErrOver, api.ErrForm}, api.ErrForm},
		{[]api.Errno{api.ErrForm, api.ErrOver}, api.ErrForm},
		{[]api.Errno{api.OK, api.ErrName, api.OK, api.ErrArg, api.ErrClose}, api.ErrArg},
	} {
		if e := Least(c.list...); e != c.want {
			t.Errorf("Least(%v) = %d, want %d", c.list, e, c.want)
		}
	}
}
