package types

import (
	"strings"

	"demotic/api"
)

const between = ", "

// Split returns the types of a list of types.
func Split(list string) ([]string, api.Errno) {
	inner, opened := strings.CutPrefix(list, "(")
	inner, closed := strings.CutSuffix(inner, ")")
	if !opened || !closed {
		return nil, api.ErrType
	}
	if inner == "" {
		return nil, api.OK
	}
	// One part more than a list may have tells that it is too long.
	parts := strings.SplitN(inner, between, api.MaxList+1)
	if len(parts) > api.MaxList || !areTypes(parts) {
		return nil, api.ErrType
	}
	return parts, api.OK
}

// Join returns the list of these types.
func Join(l []string) (string, api.Errno) {
	if !areTypes(l) {
		return "", api.ErrType
	}
	if len(l) > api.MaxList {
		return "", api.ErrLarge
	}
	return "(" + strings.Join(l, between) + ")", api.OK
}

func areTypes(l []string) bool {
	for _, t := range l {
		if Check(t) != api.OK {
			return false
		}
	}
	return true
}
