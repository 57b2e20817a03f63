/- Texts as lists of bytes. No program is named here. -/
namespace Go.Proofs.Ytjpbglbbeepmnaa
/-- A text, of a list of bytes. -/
def str (l : List UInt8) : ByteArray := ⟨l.toArray⟩
theorem str_list (l : List UInt8) : (str l).data.toList = l := by simp [str]
theorem size_list (s : ByteArray) : s.data.toList.length = s.size := by simp
theorem str_size (l : List UInt8) : (str l).size = l.length := by rw [← size_list, str_list]
theorem str_of (s : ByteArray) : str s.data.toList = s := by simp [str]
theorem str_append (a b : List UInt8) : str a ++ str b = str (a ++ b) := by
  apply ByteArray.ext
  apply Array.ext'
  rw [ByteArray.data_append]
  simp [str]
theorem str_drop (s : ByteArray) (j : Nat) : s.extract j s.size = str (s.data.toList.drop j) := by
  apply ByteArray.ext
  apply Array.ext'
  rw [ByteArray.data_extract]
  simp only [str, Array.toList_extract, List.extract_eq_take_drop]
  rw [List.take_of_length_le (by simp)]
theorem str_take (s : ByteArray) (j : Nat) : s.extract 0 j = str (s.data.toList.take j) := by
  apply ByteArray.ext
  apply Array.ext'
  rw [ByteArray.data_extract]
  simp [str]

end Go.Proofs.Ytjpbglbbeepmnaa
