package pledge

import (
	"chartulary/api"
	"chartulary/mill"
	"chartulary/octet"
)

// Shut is a field's ciphertext: its salt and its value's encoding, encrypted with its paper's key.
func Shut(m *mill.Mill, key, name, salt, value string) string {
	return m.Veil(key, label(name), salt+value)
}

// label is what a field's ciphertext is encrypted with, beside the key.
func label(name string) string {
	return cipherLabel + octet.Text(name)
}

// Open is the salt and the value of a ciphertext; false: it is too short for a salt.
func Open(m *mill.Mill, key, name, cipher string) (string, string, bool) {
	// A mill that is nil, or that no function made, decrypts to nothing, so that it is the decrypted string that has to be long enough.
	plain := m.Veil(key, label(name), cipher)
	if len(plain) < api.SaltBytes {
		return "", "", false
	}
	return plain[:api.SaltBytes], plain[api.SaltBytes:], true
}

// Slip is a field as it is stored, with its secrets derived from its paper's draw.
func Slip(m *mill.Mill, draw, id, name, value string) api.Slip {
	salt := Salt(m, draw, name)
	return api.Slip{
		Name:   name,
		Pledge: Of(m, id, name, salt, value),
		Cipher: Shut(m, Key(m, draw), name, salt, value),
	}
}

// Kept is the salt and the value that a slip contains; false: it is erased, or what it contains is not what it pledges.
func Kept(m *mill.Mill, key, id string, s api.Slip) (string, string, bool) {
	if s.Erased {
		return "", "", false
	}
	salt, value, ok := Open(m, key, s.Name, s.Cipher)
	if !ok || Of(m, id, s.Name, salt, value) != s.Pledge {
		return "", "", false
	}
	return salt, value, true
}
