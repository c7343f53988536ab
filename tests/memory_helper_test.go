package tests

import (
	"fmt"
	"reflect"
	"strings"
	"testing"
)

// room is the memory of a list, with all that is behind its end.
type room struct {
	from, to uintptr
	path     string
}

// roomsOf is the memory of all lists in a value, those in the spare room of others among them.
func roomsOf(v reflect.Value, path string) []room {
	var list []room
	switch v.Kind() {
	case reflect.Struct:
		for i := range v.NumField() {
			list = append(list, roomsOf(v.Field(i), path+"."+v.Type().Field(i).Name)...)
		}
	case reflect.Slice:
		if size := uintptr(v.Cap()) * v.Type().Elem().Size(); size > 0 {
			list = append(list, room{v.Pointer(), v.Pointer() + size, path})
		}
		whole := v.Slice(0, v.Cap())
		for i := range whole.Len() {
			list = append(list, roomsOf(whole.Index(i), fmt.Sprintf("%s[%d]", path, i))...)
		}
	}
	return list
}

// checkApart asks that no two lists of an answer share memory, and none shares any with what was given.
func checkApart(t *testing.T, answer any, given ...any) {
	t.Helper()
	own := roomsOf(reflect.ValueOf(answer), "answer")
	others := own
	for i, g := range given {
		others = append(others[:len(others):len(others)], roomsOf(reflect.ValueOf(g), fmt.Sprintf("argument %d", i))...)
	}
	for i, a := range own {
		for _, b := range others[i+1:] {
			if a.from < b.to && b.from < a.to {
				t.Fatalf("%s and %s share memory", a.path, b.path)
			}
		}
	}
}

// wholeText tells all of a value, what is behind the ends of its lists, too.
func wholeText(v any) string {
	var b strings.Builder
	writeWhole(&b, reflect.ValueOf(v))
	return b.String()
}

func writeWhole(b *strings.Builder, v reflect.Value) {
	switch v.Kind() {
	case reflect.Struct:
		b.WriteByte('{')
		for i := range v.NumField() {
			writeWhole(b, v.Field(i))
		}
		b.WriteByte('}')
	case reflect.Slice:
		whole := v.Slice(0, v.Cap())
		fmt.Fprintf(b, "[%d:", v.Len())
		for i := range whole.Len() {
			writeWhole(b, whole.Index(i))
		}
		b.WriteByte(']')
	default:
		fmt.Fprintf(b, "%#v ", v.Interface())
	}
}

// scribbleAny writes nothing into all lists of a value, and all room behind them.
func scribbleAny(v any) {
	scribbleIn(reflect.ValueOf(v))
}

func scribbleIn(v reflect.Value) {
	switch v.Kind() {
	case reflect.Struct:
		for i := range v.NumField() {
			scribbleIn(v.Field(i))
		}
	case reflect.Slice:
		whole := v.Slice(0, v.Cap())
		for i := range whole.Len() {
			scribbleIn(whole.Index(i))
			whole.Index(i).SetZero()
		}
	}
}
