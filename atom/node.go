package atom

import (
	"strings"

	"heddle/api"
)

// Node parts a node's name.
func Node(s string) (string, string, error) {
	first, second, parted := strings.Cut(s, "@")
	if !parted || len(s) > api.MaxName || !isNamePart(first, false) || !isNamePart(second, true) {
		return "", "", refuse(0, api.ErrName)
	}
	return first, second, nil
}

func isNamePart(part string, dots bool) bool {
	for i := range len(part) {
		c := part[i]
		if !isAlphanumeric(c) && c != '_' && c != '-' && !(dots && c == '.') {
			return false
		}
	}
	return part != ""
}
