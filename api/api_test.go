package api

import "testing"

func TestConstants(t *testing.T) {
	got := [...]int{int(OK), int(ErrEngine), int(ErrOrder), int(ErrFull), Tree, Skip, MaxItems, Looks}
	if want := [...]int{0, 1, 2, 3, 0, 1, 400, 3}; got != want {
		t.Errorf("constants %v, want %v", got, want)
	}
}
