package tests

import (
	"fmt"
	"reflect"
	"testing"
)

// call is a call of a function in which everything but one argument is valid.
type call[T any] struct {
	name string
	run  func(arg T) []any
}

func expectZeroOfAll[T any](t *testing.T, calls []call[T], invalid map[string]T) {
	t.Helper()
	for name, arg := range invalid {
		for _, c := range calls {
			expectZero(t, c.name+" of "+name, c.run(arg))
		}
	}
}

// overwrite sets everything that a result gives access to.
func overwrite(v reflect.Value) {
	switch v.Kind() {
	case reflect.Int:
		v.SetInt(-9)
	case reflect.String:
		v.SetString("overwritten")
	case reflect.Struct:
		for i := range v.NumField() {
			overwrite(v.Field(i))
		}
	case reflect.Slice:
		v = v.Slice(0, v.Cap())
		for i := range v.Len() {
			overwrite(v.Index(i))
		}
	}
}

func overwriteAll(results []any) {
	for _, x := range results {
		copied := reflect.New(reflect.TypeOf(x)).Elem()
		copied.Set(reflect.ValueOf(x))
		overwrite(copied)
	}
}

// expectNoTrace checks that no call changes its argument or returns memory of it. roomy copies a sample with spare capacity, and whole shows this, too.
func expectNoTrace[T any](t *testing.T, calls []call[T], samples []T, roomy func(T) T, whole func(T) string) {
	t.Helper()
	for _, sample := range samples {
		for _, c := range calls {
			arg := roomy(sample)
			before := whole(arg)
			got := c.run(arg)
			text := fmt.Sprint(got)
			if whole(arg) != before {
				t.Fatalf("%s changes %v to %v", c.name, before, whole(arg))
			}
			overwriteAll(got)
			if whole(arg) != before {
				t.Fatalf("%s of %v returns memory of its argument", c.name, before)
			}
			again := c.run(arg)
			if fmt.Sprint(again) != text {
				t.Fatalf("%s of %v returns %v and then %v", c.name, before, text, again)
			}
			overwriteAll([]any{arg})
			if fmt.Sprint(again) != text {
				t.Fatalf("%s of %v: the result changes with its argument", c.name, sample)
			}
		}
	}
}
