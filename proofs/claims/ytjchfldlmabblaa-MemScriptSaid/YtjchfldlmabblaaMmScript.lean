/- The law MemScript, walked. -/
import Derived.Test.YtjchfldlmabblaaMmTwo
import Derived.Test.YtjchfldlmabblaaMmAwake
import Derived.Deep.MidRow
import Derived.Test.YtjchfldlmabblaaFr
import Derived.Test.YtjchfldlmabblaaMix
import Derived.Deep.DeepCutAuto
import Derived.Deep.CutBlock
namespace Go.Proofs.Ytjchfldlmabblaa
open Go.RowKit Go.Maps
set_option linter.unusedVariables false
set_option linter.unusedSimpArgs false

theorem ActsIn.get {W w : World} {a : Option Addr} {n : Nat} {L : List Ax} (h : ActsIn W a n L) {i : Nat} (hi : i < n) : ∃ (x : Ax) (b off : Nat), L[i]? = some x ∧ AxOk W x ∧ a = some ⟨b, off, none⟩ ∧ ∀ (j : Nat) (u : Value), x.cells[j]? = some u → W.cell? ⟨b, off + i * 17 + j, none⟩ = some u := by
  obtain ⟨b, off, e, hc⟩ := h.at_ (by omega)
  obtain ⟨x, hx⟩ : ∃ x, L[i]? = some x := ⟨_, List.getElem?_eq_getElem (by rw [h.len]; exact hi)⟩
  exact ⟨x, b, off, hx, h.ok x (List.mem_of_getElem? hx), e, hc i x hx⟩
theorem Below.cell_of {w w' : World} (h : Below w.heap.size w w') {p : Addr} {v : Value} (hc : w.cell? p = some v) : w'.cell? p = some v := (h.cell (World.block_lt_of_cell? w p hc)).trans hc
set_option maxRecDepth 100000 in
theorem eta315 (l : List Value) (h : l.length = 315) : ∃ f : Nat → Value, l = [f 0, f 1, f 2, f 3, f 4, f 5, f 6, f 7, f 8, f 9, f 10, f 11, f 12, f 13, f 14, f 15, f 16, f 17, f 18, f 19, f 20, f 21, f 22, f 23, f 24, f 25, f 26, f 27, f 28, f 29, f 30, f 31, f 32, f 33, f 34, f 35, f 36, f 37, f 38, f 39, f 40, f 41, f 42, f 43, f 44, f 45, f 46, f 47, f 48, f 49, f 50, f 51, f 52, f 53, f 54, f 55, f 56, f 57, f 58, f 59, f 60, f 61, f 62, f 63, f 64, f 65, f 66, f 67, f 68, f 69, f 70, f 71, f 72, f 73, f 74, f 75, f 76, f 77, f 78, f 79, f 80, f 81, f 82, f 83, f 84, f 85, f 86, f 87, f 88, f 89, f 90, f 91, f 92, f 93, f 94, f 95, f 96, f 97, f 98, f 99, f 100, f 101, f 102, f 103, f 104, f 105, f 106, f 107, f 108, f 109, f 110, f 111, f 112, f 113, f 114, f 115, f 116, f 117, f 118, f 119, f 120, f 121, f 122, f 123, f 124, f 125, f 126, f 127, f 128, f 129, f 130, f 131, f 132, f 133, f 134, f 135, f 136, f 137, f 138, f 139, f 140, f 141, f 142, f 143, f 144, f 145, f 146, f 147, f 148, f 149, f 150, f 151, f 152, f 153, f 154, f 155, f 156, f 157, f 158, f 159, f 160, f 161, f 162, f 163, f 164, f 165, f 166, f 167, f 168, f 169, f 170, f 171, f 172, f 173, f 174, f 175, f 176, f 177, f 178, f 179, f 180, f 181, f 182, f 183, f 184, f 185, f 186, f 187, f 188, f 189, f 190, f 191, f 192, f 193, f 194, f 195, f 196, f 197, f 198, f 199, f 200, f 201, f 202, f 203, f 204, f 205, f 206, f 207, f 208, f 209, f 210, f 211, f 212, f 213, f 214, f 215, f 216, f 217, f 218, f 219, f 220, f 221, f 222, f 223, f 224, f 225, f 226, f 227, f 228, f 229, f 230, f 231, f 232, f 233, f 234, f 235, f 236, f 237, f 238, f 239, f 240, f 241, f 242, f 243, f 244, f 245, f 246, f 247, f 248, f 249, f 250, f 251, f 252, f 253, f 254, f 255, f 256, f 257, f 258, f 259, f 260, f 261, f 262, f 263, f 264, f 265, f 266, f 267, f 268, f 269, f 270, f 271, f 272, f 273, f 274, f 275, f 276, f 277, f 278, f 279, f 280, f 281, f 282, f 283, f 284, f 285, f 286, f 287, f 288, f 289, f 290, f 291, f 292, f 293, f 294, f 295, f 296, f 297, f 298, f 299, f 300, f 301, f 302, f 303, f 304, f 305, f 306, f 307, f 308, f 309, f 310, f 311, f 312, f 313, f 314] := by
  refine ⟨fun k => l.getD k undef, ?_⟩
  have e := list_eta l
  rw [h] at e
  exact e.trans (by kernel_rfl)
set_option maxRecDepth 100000 in
theorem openA (c0 c3 c4 c5 : Value) (a : Act) (h : Fr 315 [(0, c0), (3, c3), (4, c4), (5, c5)] a) : ∃ f : Nat → Value, a = ⟨#[c0, f 1, f 2, c3, c4, c5, f 6, f 7, f 8, f 9, f 10, f 11, f 12, f 13, f 14, f 15, f 16, f 17, f 18, f 19, f 20, f 21, f 22, f 23, f 24, f 25, f 26, f 27, f 28, f 29, f 30, f 31, f 32, f 33, f 34, f 35, f 36, f 37, f 38, f 39, f 40, f 41, f 42, f 43, f 44, f 45, f 46, f 47, f 48, f 49, f 50, f 51, f 52, f 53, f 54, f 55, f 56, f 57, f 58, f 59, f 60, f 61, f 62, f 63, f 64, f 65, f 66, f 67, f 68, f 69, f 70, f 71, f 72, f 73, f 74, f 75, f 76, f 77, f 78, f 79, f 80, f 81, f 82, f 83, f 84, f 85, f 86, f 87, f 88, f 89, f 90, f 91, f 92, f 93, f 94, f 95, f 96, f 97, f 98, f 99, f 100, f 101, f 102, f 103, f 104, f 105, f 106, f 107, f 108, f 109, f 110, f 111, f 112, f 113, f 114, f 115, f 116, f 117, f 118, f 119, f 120, f 121, f 122, f 123, f 124, f 125, f 126, f 127, f 128, f 129, f 130, f 131, f 132, f 133, f 134, f 135, f 136, f 137, f 138, f 139, f 140, f 141, f 142, f 143, f 144, f 145, f 146, f 147, f 148, f 149, f 150, f 151, f 152, f 153, f 154, f 155, f 156, f 157, f 158, f 159, f 160, f 161, f 162, f 163, f 164, f 165, f 166, f 167, f 168, f 169, f 170, f 171, f 172, f 173, f 174, f 175, f 176, f 177, f 178, f 179, f 180, f 181, f 182, f 183, f 184, f 185, f 186, f 187, f 188, f 189, f 190, f 191, f 192, f 193, f 194, f 195, f 196, f 197, f 198, f 199, f 200, f 201, f 202, f 203, f 204, f 205, f 206, f 207, f 208, f 209, f 210, f 211, f 212, f 213, f 214, f 215, f 216, f 217, f 218, f 219, f 220, f 221, f 222, f 223, f 224, f 225, f 226, f 227, f 228, f 229, f 230, f 231, f 232, f 233, f 234, f 235, f 236, f 237, f 238, f 239, f 240, f 241, f 242, f 243, f 244, f 245, f 246, f 247, f 248, f 249, f 250, f 251, f 252, f 253, f 254, f 255, f 256, f 257, f 258, f 259, f 260, f 261, f 262, f 263, f 264, f 265, f 266, f 267, f 268, f 269, f 270, f 271, f 272, f 273, f 274, f 275, f 276, f 277, f 278, f 279, f 280, f 281, f 282, f 283, f 284, f 285, f 286, f 287, f 288, f 289, f 290, f 291, f 292, f 293, f 294, f 295, f 296, f 297, f 298, f 299, f 300, f 301, f 302, f 303, f 304, f 305, f 306, f 307, f 308, f 309, f 310, f 311, f 312, f 313, f 314], []⟩ := by
  obtain ⟨l, hl, h, rfl⟩ := h
  obtain ⟨f, rfl⟩ := eta315 l hl
  obtain ⟨e0, e3, e4, e5, _⟩ := h
  cases (show f 0 = c0 from Option.some.inj e0)
  cases (show f 3 = c3 from Option.some.inj e3)
  cases (show f 4 = c4 from Option.some.inj e4)
  cases (show f 5 = c5 from Option.some.inj e5)
  exact ⟨f, rfl⟩
set_option maxRecDepth 100000 in
theorem openB (c0 c3 c4 c5 c6 c7 : Value) (a : Act) (h : Fr 315 [(0, c0), (3, c3), (4, c4), (5, c5), (6, c6), (7, c7)] a) : ∃ f : Nat → Value, a = ⟨#[c0, f 1, f 2, c3, c4, c5, c6, c7, f 8, f 9, f 10, f 11, f 12, f 13, f 14, f 15, f 16, f 17, f 18, f 19, f 20, f 21, f 22, f 23, f 24, f 25, f 26, f 27, f 28, f 29, f 30, f 31, f 32, f 33, f 34, f 35, f 36, f 37, f 38, f 39, f 40, f 41, f 42, f 43, f 44, f 45, f 46, f 47, f 48, f 49, f 50, f 51, f 52, f 53, f 54, f 55, f 56, f 57, f 58, f 59, f 60, f 61, f 62, f 63, f 64, f 65, f 66, f 67, f 68, f 69, f 70, f 71, f 72, f 73, f 74, f 75, f 76, f 77, f 78, f 79, f 80, f 81, f 82, f 83, f 84, f 85, f 86, f 87, f 88, f 89, f 90, f 91, f 92, f 93, f 94, f 95, f 96, f 97, f 98, f 99, f 100, f 101, f 102, f 103, f 104, f 105, f 106, f 107, f 108, f 109, f 110, f 111, f 112, f 113, f 114, f 115, f 116, f 117, f 118, f 119, f 120, f 121, f 122, f 123, f 124, f 125, f 126, f 127, f 128, f 129, f 130, f 131, f 132, f 133, f 134, f 135, f 136, f 137, f 138, f 139, f 140, f 141, f 142, f 143, f 144, f 145, f 146, f 147, f 148, f 149, f 150, f 151, f 152, f 153, f 154, f 155, f 156, f 157, f 158, f 159, f 160, f 161, f 162, f 163, f 164, f 165, f 166, f 167, f 168, f 169, f 170, f 171, f 172, f 173, f 174, f 175, f 176, f 177, f 178, f 179, f 180, f 181, f 182, f 183, f 184, f 185, f 186, f 187, f 188, f 189, f 190, f 191, f 192, f 193, f 194, f 195, f 196, f 197, f 198, f 199, f 200, f 201, f 202, f 203, f 204, f 205, f 206, f 207, f 208, f 209, f 210, f 211, f 212, f 213, f 214, f 215, f 216, f 217, f 218, f 219, f 220, f 221, f 222, f 223, f 224, f 225, f 226, f 227, f 228, f 229, f 230, f 231, f 232, f 233, f 234, f 235, f 236, f 237, f 238, f 239, f 240, f 241, f 242, f 243, f 244, f 245, f 246, f 247, f 248, f 249, f 250, f 251, f 252, f 253, f 254, f 255, f 256, f 257, f 258, f 259, f 260, f 261, f 262, f 263, f 264, f 265, f 266, f 267, f 268, f 269, f 270, f 271, f 272, f 273, f 274, f 275, f 276, f 277, f 278, f 279, f 280, f 281, f 282, f 283, f 284, f 285, f 286, f 287, f 288, f 289, f 290, f 291, f 292, f 293, f 294, f 295, f 296, f 297, f 298, f 299, f 300, f 301, f 302, f 303, f 304, f 305, f 306, f 307, f 308, f 309, f 310, f 311, f 312, f 313, f 314], []⟩ := by
  obtain ⟨l, hl, h, rfl⟩ := h
  obtain ⟨f, rfl⟩ := eta315 l hl
  obtain ⟨e0, e3, e4, e5, e6, e7, _⟩ := h
  cases (show f 0 = c0 from Option.some.inj e0)
  cases (show f 3 = c3 from Option.some.inj e3)
  cases (show f 4 = c4 from Option.some.inj e4)
  cases (show f 5 = c5 from Option.some.inj e5)
  cases (show f 6 = c6 from Option.some.inj e6)
  cases (show f 7 = c7 from Option.some.inj e7)
  exact ⟨f, rfl⟩
set_option maxRecDepth 100000 in
theorem openC (c0 c3 c4 c5 c6 : Value) (a : Act) (h : Fr 315 [(0, c0), (3, c3), (4, c4), (5, c5), (6, c6)] a) : ∃ f : Nat → Value, a = ⟨#[c0, f 1, f 2, c3, c4, c5, c6, f 7, f 8, f 9, f 10, f 11, f 12, f 13, f 14, f 15, f 16, f 17, f 18, f 19, f 20, f 21, f 22, f 23, f 24, f 25, f 26, f 27, f 28, f 29, f 30, f 31, f 32, f 33, f 34, f 35, f 36, f 37, f 38, f 39, f 40, f 41, f 42, f 43, f 44, f 45, f 46, f 47, f 48, f 49, f 50, f 51, f 52, f 53, f 54, f 55, f 56, f 57, f 58, f 59, f 60, f 61, f 62, f 63, f 64, f 65, f 66, f 67, f 68, f 69, f 70, f 71, f 72, f 73, f 74, f 75, f 76, f 77, f 78, f 79, f 80, f 81, f 82, f 83, f 84, f 85, f 86, f 87, f 88, f 89, f 90, f 91, f 92, f 93, f 94, f 95, f 96, f 97, f 98, f 99, f 100, f 101, f 102, f 103, f 104, f 105, f 106, f 107, f 108, f 109, f 110, f 111, f 112, f 113, f 114, f 115, f 116, f 117, f 118, f 119, f 120, f 121, f 122, f 123, f 124, f 125, f 126, f 127, f 128, f 129, f 130, f 131, f 132, f 133, f 134, f 135, f 136, f 137, f 138, f 139, f 140, f 141, f 142, f 143, f 144, f 145, f 146, f 147, f 148, f 149, f 150, f 151, f 152, f 153, f 154, f 155, f 156, f 157, f 158, f 159, f 160, f 161, f 162, f 163, f 164, f 165, f 166, f 167, f 168, f 169, f 170, f 171, f 172, f 173, f 174, f 175, f 176, f 177, f 178, f 179, f 180, f 181, f 182, f 183, f 184, f 185, f 186, f 187, f 188, f 189, f 190, f 191, f 192, f 193, f 194, f 195, f 196, f 197, f 198, f 199, f 200, f 201, f 202, f 203, f 204, f 205, f 206, f 207, f 208, f 209, f 210, f 211, f 212, f 213, f 214, f 215, f 216, f 217, f 218, f 219, f 220, f 221, f 222, f 223, f 224, f 225, f 226, f 227, f 228, f 229, f 230, f 231, f 232, f 233, f 234, f 235, f 236, f 237, f 238, f 239, f 240, f 241, f 242, f 243, f 244, f 245, f 246, f 247, f 248, f 249, f 250, f 251, f 252, f 253, f 254, f 255, f 256, f 257, f 258, f 259, f 260, f 261, f 262, f 263, f 264, f 265, f 266, f 267, f 268, f 269, f 270, f 271, f 272, f 273, f 274, f 275, f 276, f 277, f 278, f 279, f 280, f 281, f 282, f 283, f 284, f 285, f 286, f 287, f 288, f 289, f 290, f 291, f 292, f 293, f 294, f 295, f 296, f 297, f 298, f 299, f 300, f 301, f 302, f 303, f 304, f 305, f 306, f 307, f 308, f 309, f 310, f 311, f 312, f 313, f 314], []⟩ := by
  obtain ⟨l, hl, h, rfl⟩ := h
  obtain ⟨f, rfl⟩ := eta315 l hl
  obtain ⟨e0, e3, e4, e5, e6, _⟩ := h
  cases (show f 0 = c0 from Option.some.inj e0)
  cases (show f 3 = c3 from Option.some.inj e3)
  cases (show f 4 = c4 from Option.some.inj e4)
  cases (show f 5 = c5 from Option.some.inj e5)
  cases (show f 6 = c6 from Option.some.inj e6)
  exact ⟨f, rfl⟩
set_option maxRecDepth 100000 in
theorem openD (c0 c3 c4 c5 c6 c7 c10 c11 c12 c13 : Value) (a : Act) (h : Fr 315 [(0, c0), (3, c3), (4, c4), (5, c5), (6, c6), (7, c7), (10, c10), (11, c11), (12, c12), (13, c13)] a) : ∃ f : Nat → Value, a = ⟨#[c0, f 1, f 2, c3, c4, c5, c6, c7, f 8, f 9, c10, c11, c12, c13, f 14, f 15, f 16, f 17, f 18, f 19, f 20, f 21, f 22, f 23, f 24, f 25, f 26, f 27, f 28, f 29, f 30, f 31, f 32, f 33, f 34, f 35, f 36, f 37, f 38, f 39, f 40, f 41, f 42, f 43, f 44, f 45, f 46, f 47, f 48, f 49, f 50, f 51, f 52, f 53, f 54, f 55, f 56, f 57, f 58, f 59, f 60, f 61, f 62, f 63, f 64, f 65, f 66, f 67, f 68, f 69, f 70, f 71, f 72, f 73, f 74, f 75, f 76, f 77, f 78, f 79, f 80, f 81, f 82, f 83, f 84, f 85, f 86, f 87, f 88, f 89, f 90, f 91, f 92, f 93, f 94, f 95, f 96, f 97, f 98, f 99, f 100, f 101, f 102, f 103, f 104, f 105, f 106, f 107, f 108, f 109, f 110, f 111, f 112, f 113, f 114, f 115, f 116, f 117, f 118, f 119, f 120, f 121, f 122, f 123, f 124, f 125, f 126, f 127, f 128, f 129, f 130, f 131, f 132, f 133, f 134, f 135, f 136, f 137, f 138, f 139, f 140, f 141, f 142, f 143, f 144, f 145, f 146, f 147, f 148, f 149, f 150, f 151, f 152, f 153, f 154, f 155, f 156, f 157, f 158, f 159, f 160, f 161, f 162, f 163, f 164, f 165, f 166, f 167, f 168, f 169, f 170, f 171, f 172, f 173, f 174, f 175, f 176, f 177, f 178, f 179, f 180, f 181, f 182, f 183, f 184, f 185, f 186, f 187, f 188, f 189, f 190, f 191, f 192, f 193, f 194, f 195, f 196, f 197, f 198, f 199, f 200, f 201, f 202, f 203, f 204, f 205, f 206, f 207, f 208, f 209, f 210, f 211, f 212, f 213, f 214, f 215, f 216, f 217, f 218, f 219, f 220, f 221, f 222, f 223, f 224, f 225, f 226, f 227, f 228, f 229, f 230, f 231, f 232, f 233, f 234, f 235, f 236, f 237, f 238, f 239, f 240, f 241, f 242, f 243, f 244, f 245, f 246, f 247, f 248, f 249, f 250, f 251, f 252, f 253, f 254, f 255, f 256, f 257, f 258, f 259, f 260, f 261, f 262, f 263, f 264, f 265, f 266, f 267, f 268, f 269, f 270, f 271, f 272, f 273, f 274, f 275, f 276, f 277, f 278, f 279, f 280, f 281, f 282, f 283, f 284, f 285, f 286, f 287, f 288, f 289, f 290, f 291, f 292, f 293, f 294, f 295, f 296, f 297, f 298, f 299, f 300, f 301, f 302, f 303, f 304, f 305, f 306, f 307, f 308, f 309, f 310, f 311, f 312, f 313, f 314], []⟩ := by
  obtain ⟨l, hl, h, rfl⟩ := h
  obtain ⟨f, rfl⟩ := eta315 l hl
  obtain ⟨e0, e3, e4, e5, e6, e7, e10, e11, e12, e13, _⟩ := h
  cases (show f 0 = c0 from Option.some.inj e0)
  cases (show f 3 = c3 from Option.some.inj e3)
  cases (show f 4 = c4 from Option.some.inj e4)
  cases (show f 5 = c5 from Option.some.inj e5)
  cases (show f 6 = c6 from Option.some.inj e6)
  cases (show f 7 = c7 from Option.some.inj e7)
  cases (show f 10 = c10 from Option.some.inj e10)
  cases (show f 11 = c11 from Option.some.inj e11)
  cases (show f 12 = c12 from Option.some.inj e12)
  cases (show f 13 = c13 from Option.some.inj e13)
  exact ⟨f, rfl⟩
set_option maxRecDepth 100000 in
theorem openE (c0 c3 c4 c5 c6 c7 c10 c11 c12 c13 c14 c15 c16 c17 : Value) (a : Act) (h : Fr 315 [(0, c0), (3, c3), (4, c4), (5, c5), (6, c6), (7, c7), (10, c10), (11, c11), (12, c12), (13, c13), (14, c14), (15, c15), (16, c16), (17, c17)] a) : ∃ f : Nat → Value, a = ⟨#[c0, f 1, f 2, c3, c4, c5, c6, c7, f 8, f 9, c10, c11, c12, c13, c14, c15, c16, c17, f 18, f 19, f 20, f 21, f 22, f 23, f 24, f 25, f 26, f 27, f 28, f 29, f 30, f 31, f 32, f 33, f 34, f 35, f 36, f 37, f 38, f 39, f 40, f 41, f 42, f 43, f 44, f 45, f 46, f 47, f 48, f 49, f 50, f 51, f 52, f 53, f 54, f 55, f 56, f 57, f 58, f 59, f 60, f 61, f 62, f 63, f 64, f 65, f 66, f 67, f 68, f 69, f 70, f 71, f 72, f 73, f 74, f 75, f 76, f 77, f 78, f 79, f 80, f 81, f 82, f 83, f 84, f 85, f 86, f 87, f 88, f 89, f 90, f 91, f 92, f 93, f 94, f 95, f 96, f 97, f 98, f 99, f 100, f 101, f 102, f 103, f 104, f 105, f 106, f 107, f 108, f 109, f 110, f 111, f 112, f 113, f 114, f 115, f 116, f 117, f 118, f 119, f 120, f 121, f 122, f 123, f 124, f 125, f 126, f 127, f 128, f 129, f 130, f 131, f 132, f 133, f 134, f 135, f 136, f 137, f 138, f 139, f 140, f 141, f 142, f 143, f 144, f 145, f 146, f 147, f 148, f 149, f 150, f 151, f 152, f 153, f 154, f 155, f 156, f 157, f 158, f 159, f 160, f 161, f 162, f 163, f 164, f 165, f 166, f 167, f 168, f 169, f 170, f 171, f 172, f 173, f 174, f 175, f 176, f 177, f 178, f 179, f 180, f 181, f 182, f 183, f 184, f 185, f 186, f 187, f 188, f 189, f 190, f 191, f 192, f 193, f 194, f 195, f 196, f 197, f 198, f 199, f 200, f 201, f 202, f 203, f 204, f 205, f 206, f 207, f 208, f 209, f 210, f 211, f 212, f 213, f 214, f 215, f 216, f 217, f 218, f 219, f 220, f 221, f 222, f 223, f 224, f 225, f 226, f 227, f 228, f 229, f 230, f 231, f 232, f 233, f 234, f 235, f 236, f 237, f 238, f 239, f 240, f 241, f 242, f 243, f 244, f 245, f 246, f 247, f 248, f 249, f 250, f 251, f 252, f 253, f 254, f 255, f 256, f 257, f 258, f 259, f 260, f 261, f 262, f 263, f 264, f 265, f 266, f 267, f 268, f 269, f 270, f 271, f 272, f 273, f 274, f 275, f 276, f 277, f 278, f 279, f 280, f 281, f 282, f 283, f 284, f 285, f 286, f 287, f 288, f 289, f 290, f 291, f 292, f 293, f 294, f 295, f 296, f 297, f 298, f 299, f 300, f 301, f 302, f 303, f 304, f 305, f 306, f 307, f 308, f 309, f 310, f 311, f 312, f 313, f 314], []⟩ := by
  obtain ⟨l, hl, h, rfl⟩ := h
  obtain ⟨f, rfl⟩ := eta315 l hl
  obtain ⟨e0, e3, e4, e5, e6, e7, e10, e11, e12, e13, e14, e15, e16, e17, _⟩ := h
  cases (show f 0 = c0 from Option.some.inj e0)
  cases (show f 3 = c3 from Option.some.inj e3)
  cases (show f 4 = c4 from Option.some.inj e4)
  cases (show f 5 = c5 from Option.some.inj e5)
  cases (show f 6 = c6 from Option.some.inj e6)
  cases (show f 7 = c7 from Option.some.inj e7)
  cases (show f 10 = c10 from Option.some.inj e10)
  cases (show f 11 = c11 from Option.some.inj e11)
  cases (show f 12 = c12 from Option.some.inj e12)
  cases (show f 13 = c13 from Option.some.inj e13)
  cases (show f 14 = c14 from Option.some.inj e14)
  cases (show f 15 = c15 from Option.some.inj e15)
  cases (show f 16 = c16 from Option.some.inj e16)
  cases (show f 17 = c17 from Option.some.inj e17)
  exact ⟨f, rfl⟩
theorem CellsIn.crow {W : World} {a : Option Addr} {n : Nat} {l : List Ck} (h : CellsIn W a n l) (hn : 0 < n) : ∃ b off, a = some ⟨b, off, none⟩ ∧ ∀ (j : Nat) (u : Value), (Go.Proofs.Ytjchfldlmabblaa.crow l)[j]? = some u → W.cell? ⟨b, off + j, none⟩ = some u := by
  obtain ⟨b, off, e, hc⟩ := h.at_ hn
  refine ⟨b, off, e, fun j u hu => ?_⟩
  have hj : j < l.length * 2 := by have := (List.getElem?_eq_some_iff.1 hu).1; rw [crow_len] at this; exact this
  obtain ⟨t, ht⟩ : ∃ t, l[j / 2]? = some t := ⟨_, List.getElem?_eq_getElem (by omega)⟩
  obtain ⟨c1, c2⟩ := hc _ t ht
  obtain ⟨r1, r2⟩ := crow_get l _ t ht
  rcases (by omega : j = j / 2 * 2 ∨ j = j / 2 * 2 + 1) with e | e
  · rw [← e] at c1 r1; rw [r1] at hu; injection hu with hu; rw [← hu]; exact c1
  · rw [← e] at r2
    rw [Nat.add_assoc, ← e] at c2
    rw [r2] at hu; injection hu with hu; rw [← hu]; exact c2
theorem wpList_app0 (w : World) {ops : Array Oper} {rest : List Oper} {o : Oper} {a : Go.Act} {Q : Exit → Go.Act → World → Prop} (hgd : o.guard = none) (s x : Operand) (t e : TypeId)
    (ho : o.op = .call { callee := .builtin .append, args := #[s, x], argTypes := #[t, t] }) (ht : Try.prog.underlying t = some (.slice e)) (hinf : cellInfo e)
    (hs : a.eval s = .slice none 0 0) (ca : Option Addr) (c : Nat) (hx : a.eval x = .slice ca 0 c) (h : wpList Try.prog ops Q rest (a.put o.dst (.slice none 0 0)) w) : wpList Try.prog ops Q (o :: rest) a w := by
  obtain ⟨i0, hi, hz0, hz1, hz2⟩ := info_parts hinf
  have hrun : ∀ ty, (Builtin.append_ #[t, t] ty #[.slice none 0 0, .slice ca 0 c]).run Try.prog w = .ok (.slice none 0 0) w := fun ty => by
    cases ca <;> simp [Builtin.append_, run_underlying ht, sizeOf, typeInfo, hi, Builtin.lenOf, Builtin.firstCells, storeCells, loadCells, loadCellsFrom]
  refine wpList_plain hgd fun K hK' => ?_
  unfold Oper.wp
  simp [execOp, ho, resolve, invoke, builtin, hs, hx, hrun, Result.andThen]
  exact hK' _ _ h
theorem mrow_take {l : List Ck} {i : Nat} {t : Ck} (h : l[i]? = some t) : l.take (i + 1) = l.take i ++ [t] := by
  obtain ⟨h1, h2⟩ := List.getElem?_eq_some_iff.1 h
  rw [List.take_succ_eq_append_getElem h1, h2]
/-- A value in a block of the law's own. -/
def ValB (w : World) (a : Nat) (v : Vl) (t : TypeId) : Prop := w.heap[a]? = some (.cells #[.int .i64 v.k, .int .i64 v.n, .int .i64 v.b, .int .i64 v.o] t (0, 0))
theorem ValB.keep {w w' : World} {a : Nat} {v : Vl} {t : TypeId} (h : ValB w a v t) (hk : Keeps No w w') : ValB w' a v t := (hk.block a (Array.getElem?_eq_some_iff.1 h).1 (fun e => e)).trans h
theorem ValB.c {w : World} {a : Nat} {v : Vl} {t : TypeId} (h : ValB w a v t) : w.cell? ⟨a, 0, none⟩ = some (.int .i64 v.k) ∧ w.cell? ⟨a, 1, none⟩ = some (.int .i64 v.n) ∧ w.cell? ⟨a, 2, none⟩ = some (.int .i64 v.b) ∧ w.cell? ⟨a, 3, none⟩ = some (.int .i64 v.o) := by
  unfold ValB at h
  refine ⟨?_, ?_, ?_, ?_⟩ <;> (unfold World.cell?; simp only; rw [h]; rfl)
theorem infoV6z : (Try.prog.info? 42).map (·.size) = some 4 := by kernel_rfl
/-- An act in a block of the law's own. -/
abbrev actC (d z : Int) (ca : Option Addr) (cn cc : Nat) (p q v : Vl) (t : ByteArray) (y : Int) : Array Value := #[.int .i64 d, .int .i64 z, .slice ca cn cc, .int .i64 p.k, .int .i64 p.n, .int .i64 p.b, .int .i64 p.o, .int .i64 q.k, .int .i64 q.n, .int .i64 q.b, .int .i64 q.o, .int .i64 v.k, .int .i64 v.n, .int .i64 v.b, .int .i64 v.o, .string t, .int .i64 y]
def ActBlk (w : World) (B : Nat) (cs : Array Value) : Prop := w.heap[B]? = some (.cells cs 32 (0, 0))
theorem ActBlk.at_ {w : World} {B : Nat} {cs : Array Value} (h : ActBlk w B cs) (j : Nat) (v : Value) (hj : cs[j]? = some v) : w.cell? ⟨B, j, none⟩ = some v := by
  unfold ActBlk at h
  unfold World.cell?; simp only; rw [h]; exact hj
theorem ActBlk.keep {S : Nat → Prop} {w w' : World} {B : Nat} {cs : Array Value} (h : ActBlk w B cs) (hk : Keeps S w w') (hS : ¬ S B) : ActBlk w' B cs :=
  (hk.block B (Array.getElem?_eq_some_iff.1 h).1 hS).trans h
set_option maxRecDepth 100000 in
set_option maxHeartbeats 8000000 in
theorem memScript_walk (a : Option Addr) (n cap : Nat) (L : List Ax) (w : World) (hL : ActsIn w a n L) (hna : a = none → n = 0 ∧ cap = 0) (hlen : n ≤ 9223372036854775807) :
    Calls Try.prog 3 #[.slice a n cap] w fun e w' => e = .returned (.bool true) ∧ Below w.heap.size w w' := by
  have HL := Lib.hid hL
  clear hL hna
  by_cases hn : 40 < n
  · have hn' : (40 : Int) < (n : Int) := by omega
    go_enter Try.func3, Try.ntmps3
    go_wp2_with fail
    refine (awake_true _).mono ?_
    rintro e w1 ⟨rfl, hb1⟩
    have HB := Lib.hid hb1
    clear hb1
    go_wp2_with fail
    go_returns
    exact ⟨rfl, HB.out⟩
  · have hn' : ¬ (40 : Int) < (n : Int) := by omega
    go_enter Try.func3, Try.ntmps3
    go_wp2_with fail
    refine (mem_b w (fun _ => False) (fun _ h => h.elim)).mono ?_
    rintro e w1 ⟨m, rfl, hm1, hk1⟩
    have HM1 := Lib.hid hm1
    clear hm1 hk1
    go_wp2_with fail
    refine (tnew HM1.out).mono ?_
    rintro e w2 ⟨r, rfl, ht2, hk2⟩
    have HT2 := Lib.hid ht2
    clear ht2 hk2 HM1
    go_wp2_with fail
    refine wp_loop_ghost_k (fun g a' wo => ∃ (i : Nat) (V : View) (k : Nat), Fr 315 [(0, .slice a n cap), (3, .pointer (some ⟨m, 0, none⟩)), (4, .pointer (some ⟨r, 0, none⟩)), (5, .int .i64 (i : Int))] a' ∧ i ≤ n ∧ g = n - i ∧ k ≤ i ∧ Hid (Two w wo m r V k V (k + 1) (fun _ => False))) n ?_ ?_
    · exact ⟨0, _, 0, ⟨_, rfl, ⟨rfl, rfl, rfl, rfl, trivial⟩, rfl⟩, Nat.zero_le _, rfl, Nat.le_refl _, HT2⟩
    · rintro g a' wo ⟨i, V, k, hF, hi, hg, hki, HT⟩ J K hJ hK
      obtain ⟨f, rfl⟩ := openA _ _ _ _ _ hF
      clear hF HT2
      by_cases hlt : i < n
      · have hlt' : (i : Int) < (n : Int) := by omega
        have i0 : (0 : Int) ≤ (i : Int) := by omega
        obtain ⟨x, b, off, hx, hok, rfl, hc⟩ := HL.out.get (w := wo) hlt
        have HC := Lib.hid (fun j u h => Below.cell_of HT.out.below (hc j u h))
        have HX := Lib.hid hok
        clear hx hok hc
        obtain ⟨C, hC⟩ : ∃ C, x.cells = C := ⟨_, rfl⟩
        have HCC : Hid (x.cells = C) := Lib.hid hC
        rw [hC] at HC
        have hCl : C.length = 17 := by rw [← hC]; rfl
        have HC1 : Hid (C.toArray.all (fun u => u.oneCell') = true) := Lib.hid (by rw [← hC]; kernel_rfl)
        have HCL : Hid ((Try.prog.info? 32).map (fun i => i.size) = some C.length) := Lib.hid (by rw [hCl]; kernel_rfl)
        have HCL' : Hid ((Try.prog.info? 32).map (fun i => i.size) = some C.toArray.size) := Lib.hid (by rw [List.size_toArray, hCl]; kernel_rfl)
        have HCS : Hid (C.toArray.size = 17) := Lib.hid (by rw [List.size_toArray, hCl])
        clear hC hCl
        go_upto_region 9 with fail
        refine wp_cut (fun a' wx => Fr 315 [(0, .slice (some ⟨b, off, none⟩) n cap), (3, .pointer (some ⟨m, 0, none⟩)), (4, .pointer (some ⟨r, 0, none⟩)), (5, .int .i64 (i : Int)), (6, .pointer (some ⟨wo.heap.size, 0, none⟩))] a' ∧ Hid (Keeps No wo wx) ∧ Hid (ActBlk wx wo.heap.size C.toArray)) ?_ ?_
        · rintro a' wx ⟨hF, HK6, H6⟩
          obtain ⟨f, rfl⟩ := openC _ _ _ _ _ _ hF
          clear hF
          have HI : Hid (∀ (j : Nat) (u : Value), x.cells[j]? = some u → C.toArray[j]? = some u) := Lib.hid (fun j u h => by rw [← HCC.out]; simpa using h)
          have x0 := H6.out.at_ 0 _ (HI.out 0 _ rfl)
          have x1 := H6.out.at_ 1 _ (HI.out 1 _ rfl)
          have x2 := H6.out.at_ 2 _ (HI.out 2 _ rfl)
          have x15 := H6.out.at_ 15 _ (HI.out 15 _ rfl)
          have HTB : Hid (Two w wx m r V k V (k + 1) (fun q => q = wo.heap.size)) := Lib.hid (HT.out.keep HK6.out (fun q e => .inr (by have := (Array.getElem?_eq_some_iff.1 H6.out).1; omega)))
          have HB6 : Hid (w.heap.size ≤ wo.heap.size) := Lib.hid HT.out.below.size
          clear HC HT HC1 HCL HCL' HCS HK6
          by_cases hb1 : 12 < x.cn
          · have hb1' : (12 : Int) < (x.cn : Int) := by omega
            go_wp2_with fail
            refine (awake_true _).mono ?_
            rintro e w3 ⟨rfl, hb3⟩
            have HB := Lib.hid (HTB.out.below.trans (hb3.mono HTB.out.below.size))
            clear hb3
            go_wp2_with fail
            go_returns
            exact ⟨rfl, HB.out⟩
          have hb1' : ¬ (12 : Int) < (x.cn : Int) := by omega
          by_cases hb2 : 20 < x.t.size
          · have hb2' : (20 : Int) < (x.t.size : Int) := by omega
            go_wp2_with fail
            refine (awake_true _).mono ?_
            rintro e w3 ⟨rfl, hb3⟩
            have HB := Lib.hid (HTB.out.below.trans (hb3.mono HTB.out.below.size))
            clear hb3
            go_wp2_with fail
            go_returns
            exact ⟨rfl, HB.out⟩
          have hb2' : ¬ (20 : Int) < (x.t.size : Int) := by omega
          by_cases hb3 : 65536 < x.z
          · go_wp2_with fail
            refine (awake_true _).mono ?_
            rintro e w3 ⟨rfl, hb3⟩
            have HB := Lib.hid (HTB.out.below.trans (hb3.mono HTB.out.below.size))
            clear hb3
            go_wp2_with fail
            go_returns
            exact ⟨rfl, HB.out⟩
          go_upto_block 2 with fail
          refine wp_cut (fun a' w3 => ∃ (V3 : View) (k3 : Nat), Fr 315 [(0, .slice (some ⟨b, off, none⟩) n cap), (3, .pointer (some ⟨m, 0, none⟩)), (4, .pointer (some ⟨r, 0, none⟩)), (5, .int .i64 (i : Int)), (6, .pointer (some ⟨wo.heap.size, 0, none⟩)), (7, .bool true)] a' ∧ k3 ≤ i + 1 ∧ Hid (Two w w3 m r V3 k3 V3 (k3 + 1) (fun q => q = wo.heap.size)) ∧ Hid (ActBlk w3 wo.heap.size C.toArray)) ?_ ?_
          · rintro a' w3 ⟨V3, k3, hF, hk3, HT3, H3⟩
            obtain ⟨f3, rfl⟩ := openB _ _ _ _ _ _ _ hF
            clear hF
            obtain ⟨⟨⟨rk, rn, rb, ro⟩, rf⟩, hrv⟩ : ∃ v, readV V3 x.p x.t = v := ⟨_, rfl⟩
            obtain ⟨⟨⟨mk, mn, mb, mo⟩, mf⟩, hmv⟩ : ∃ v, moveV V3 x.p x.y = v := ⟨_, rfl⟩
            obtain ⟨⟨lb, lf⟩, hlv⟩ : ∃ v, lessV V3 x.p x.q = v := ⟨_, rfl⟩
            obtain ⟨⟨eb, ef⟩, hev⟩ : ∃ v, equalV V3 x.p x.q = v := ⟨_, rfl⟩
            obtain ⟨⟨db, df⟩, hdv⟩ : ∃ v, distV V3 x.p x.q = v := ⟨_, rfl⟩
            obtain ⟨sz, hsz⟩ : ∃ v, sizeV V3 x.p.b = v := ⟨_, rfl⟩
            have HRV := Lib.hid hrv
            have HMV := Lib.hid hmv
            have HLV := Lib.hid hlv
            have HEV := Lib.hid hev
            have HDV := Lib.hid hdv
            have HSZ := Lib.hid hsz
            clear hrv hmv hlv hev hdv hsz x0 x1 x2 x15
            have HXW : Hid (∀ (W : World) (hk : Keeps No w3 W) (j : Nat) (v : Value), x.cells[j]? = some v → W.cell? ⟨wo.heap.size, j, none⟩ = some v) := Lib.hid (fun W hk j v hj => (H3.out.keep hk (fun e => e)).at_ j _ (HI.out j _ hj))
            have x3 := HXW.out w3 (Keeps.refl _ _) 3 _ rfl
            have x4 := HXW.out w3 (Keeps.refl _ _) 4 _ rfl
            have x5 := HXW.out w3 (Keeps.refl _ _) 5 _ rfl
            have x6 := HXW.out w3 (Keeps.refl _ _) 6 _ rfl
            have x15 := HXW.out w3 (Keeps.refl _ _) 15 _ rfl
            go_wp2_with fail
            refine (tread HT3.out x.p x.t ⟨⟨rk, rn, rb, ro⟩, rf⟩ HRV.out HX.out.p HX.out.t).mono ?_
            rintro e w4 ⟨rfl, hk4⟩
            have HK4 := Lib.hid hk4
            clear hk4 x3 x4 x5 x6 x15
            go_upto_region 27 with fail
            obtain ⟨W1, hW1⟩ : ∃ W1, w4.alloc (.cells #[.int .i64 rk, .int .i64 rn, .int .i64 rb, .int .i64 ro] 30) = W1 := ⟨_, rfl⟩
            have HW1 : Hid (Keeps No w3 W1) := Lib.hid (by rw [← hW1]; exact HK4.out.alloc _)
            have HV10 : Hid (ValB W1 w4.heap.size ⟨rk, rn, rb, ro⟩ 30) := Lib.hid (by rw [← hW1]; exact heap_alloc_new _ _)
            rw [hW1]
            clear hW1
            refine wp_cut (fun a' wx => ∃ a10 a12 : Nat, Fr 315 [(0, .slice (some ⟨b, off, none⟩) n cap), (3, .pointer (some ⟨m, 0, none⟩)), (4, .pointer (some ⟨r, 0, none⟩)), (5, .int .i64 (i : Int)), (6, .pointer (some ⟨wo.heap.size, 0, none⟩)), (7, .bool true), (10, .pointer (some ⟨a10, 0, none⟩)), (11, .bool rf), (12, .pointer (some ⟨a12, 0, none⟩)), (13, .bool rf)] a' ∧ Hid (Keeps No w3 wx) ∧ Hid (ValB wx a10 ⟨rk, rn, rb, ro⟩ 30) ∧ Hid (ValB wx a12 ⟨rk, rn, rb, ro⟩ 42)) ?_ ?_
            · clear HW1 HV10 HK4
              rintro a' w5 ⟨a10, a12, hF, HK5, HV10, HV12⟩
              obtain ⟨f5, rfl⟩ := openD _ _ _ _ _ _ _ _ _ _ _ hF
              clear hF
              have x3 := HXW.out w5 HK5.out 3 _ rfl
              have x4 := HXW.out w5 HK5.out 4 _ rfl
              have x5 := HXW.out w5 HK5.out 5 _ rfl
              have x6 := HXW.out w5 HK5.out 6 _ rfl
              have x16 := HXW.out w5 HK5.out 16 _ rfl
              go_wp2_with fail
              refine (tmove (HT3.out.no HK5.out) x.p x.y ⟨⟨mk, mn, mb, mo⟩, mf⟩ HMV.out HX.out.p).mono ?_
              rintro e w6 ⟨rfl, hk6⟩
              have HK6 := Lib.hid (HK5.out.trans hk6 (fun _ _ e => e))
              have HV10' := Lib.hid (HV10.out.keep hk6)
              have HV12' := Lib.hid (HV12.out.keep hk6)
              clear hk6 x3 x4 x5 x6 x16 HV10 HV12
              go_upto_region 29 with fail
              obtain ⟨W1, hW1⟩ : ∃ W1, w6.alloc (.cells #[.int .i64 mk, .int .i64 mn, .int .i64 mb, .int .i64 mo] 30) = W1 := ⟨_, rfl⟩
              have HW1 : Hid (Keeps No w3 W1) := Lib.hid (by rw [← hW1]; exact HK6.out.alloc _)
              have HV10 : Hid (ValB W1 a10 ⟨rk, rn, rb, ro⟩ 30) := Lib.hid (by rw [← hW1]; exact HV10'.out.keep ((Keeps.refl _ _).alloc _))
              have HV12 : Hid (ValB W1 a12 ⟨rk, rn, rb, ro⟩ 42) := Lib.hid (by rw [← hW1]; exact HV12'.out.keep ((Keeps.refl _ _).alloc _))
              have HV14 : Hid (ValB W1 w6.heap.size ⟨mk, mn, mb, mo⟩ 30) := Lib.hid (by rw [← hW1]; exact heap_alloc_new _ _)
              rw [hW1]
              clear hW1 HV10' HV12'
              refine wp_cut (fun a' wx => ∃ a14 a16 : Nat, Fr 315 [(0, .slice (some ⟨b, off, none⟩) n cap), (3, .pointer (some ⟨m, 0, none⟩)), (4, .pointer (some ⟨r, 0, none⟩)), (5, .int .i64 (i : Int)), (6, .pointer (some ⟨wo.heap.size, 0, none⟩)), (7, .bool true), (10, .pointer (some ⟨a10, 0, none⟩)), (11, .bool rf), (12, .pointer (some ⟨a12, 0, none⟩)), (13, .bool rf), (14, .pointer (some ⟨a14, 0, none⟩)), (15, .bool mf), (16, .pointer (some ⟨a16, 0, none⟩)), (17, .bool mf)] a' ∧ Hid (Keeps No w3 wx) ∧ Hid (ValB wx a10 ⟨rk, rn, rb, ro⟩ 30) ∧ Hid (ValB wx a12 ⟨rk, rn, rb, ro⟩ 42) ∧ Hid (ValB wx a14 ⟨mk, mn, mb, mo⟩ 30) ∧ Hid (ValB wx a16 ⟨mk, mn, mb, mo⟩ 42)) ?_ ?_
              · clear HW1 HV10 HV12 HV14 HK6 HK5
                rintro a' w7 ⟨a14, a16, hF, HK7, HV10, HV12, HV14, HV16⟩
                obtain ⟨f7, rfl⟩ := openE _ _ _ _ _ _ _ _ _ _ _ _ _ _ _ hF
                clear hF
                have HQ7 : Hid (Keeps No w7 w7) := Lib.hid (Keeps.refl _ _)
                have x3 := HXW.out w7 HK7.out 3 _ rfl
                have x4 := HXW.out w7 HK7.out 4 _ rfl
                have x5 := HXW.out w7 HK7.out 5 _ rfl
                have x6 := HXW.out w7 HK7.out 6 _ rfl
                have x7 := HXW.out w7 HK7.out 7 _ rfl
                have x8 := HXW.out w7 HK7.out 8 _ rfl
                have x9 := HXW.out w7 HK7.out 9 _ rfl
                have x10 := HXW.out w7 HK7.out 10 _ rfl
                go_wp2_with fail
                refine (tless (HT3.out.no HK7.out) x.p x.q ⟨lb, lf⟩ HLV.out HX.out.p HX.out.q).mono ?_
                rintro e w8 ⟨rfl, hk8⟩
                have HK8 : Hid (Keeps No w3 w8) := Lib.hid ((HK7.out).trans hk8 (fun _ _ e => e))
                have HQ8 : Hid (Keeps No w7 w8) := Lib.hid (HQ7.out.trans hk8 (fun _ _ e => e))
                clear hk8 x3 x4 x5 x6 x7 x8 x9 x10
                go_wp2_with fail
                have hne8 : Nonempty (KW w8) := ⟨KW.of _⟩
                have HXF8 : Hid (∀ (j : Nat) (v : Value), x.cells[j]? = some v → ∀ u : KW w8, u.W.cell? ⟨wo.heap.size, j, none⟩ = some v) := Lib.hid (fun j v hj u => HXW.out _ (HK8.out.trans u.h (fun _ _ e => e)) j v hj)
                have x3 := HXF8.out 3 _ rfl
                have x4 := HXF8.out 4 _ rfl
                have x5 := HXF8.out 5 _ rfl
                have x6 := HXF8.out 6 _ rfl
                have x7 := HXF8.out 7 _ rfl
                have x8 := HXF8.out 8 _ rfl
                have x9 := HXF8.out 9 _ rfl
                have x10 := HXF8.out 10 _ rfl
                have HL8 := Lib.hid (fun (W : World) (hk : Keeps No w8 W) => tless' (HT3.out.no (HK8.out.trans hk (fun _ _ e => e))) x.p x.q ⟨lb, lf⟩ HLV.out)
                refine wp_region_class (C := fun W => ∃ u : KW w8, W = u.W) (by kernel_rfl) (by kernel_rfl) ⟨⟨World.drew _, (Keeps.refl _ _).drew⟩, rfl⟩ ?_
                repeat (go_big_quiet_step (first | (go_at_call 15; first | with_reducible refine kw_call _ (of_m x.p _) | with_reducible refine kw_call _ (of_m x.q _)) | (go_at_call 21; with_reducible refine kw_call _ (HL8.out _ (KW.h _)))))
                refine wpQuiet_nil ?_
                rintro _ ⟨T8, rfl⟩
                have HR8 : Hid (Keeps No w7 T8.W) := Lib.hid (HQ8.out.trans T8.h (fun _ _ e => e))
                have HS8 : Hid (Keeps No w3 T8.W) := Lib.hid (HK8.out.trans T8.h (fun _ _ e => e))
                clear x3 x4 x5 x6 x7 x8 x9 x10 HL8 HXF8
                have x3 := HXW.out T8.W HS8.out 3 _ rfl
                have x4 := HXW.out T8.W HS8.out 4 _ rfl
                have x5 := HXW.out T8.W HS8.out 5 _ rfl
                have x6 := HXW.out T8.W HS8.out 6 _ rfl
                have x7 := HXW.out T8.W HS8.out 7 _ rfl
                have x8 := HXW.out T8.W HS8.out 8 _ rfl
                have x9 := HXW.out T8.W HS8.out 9 _ rfl
                have x10 := HXW.out T8.W HS8.out 10 _ rfl
                go_wp2_with fail
                refine (tequal (HT3.out.no HS8.out) x.p x.q ⟨eb, ef⟩ HEV.out HX.out.p HX.out.q).mono ?_
                rintro e w9 ⟨rfl, hk9⟩
                have HK9 : Hid (Keeps No w3 w9) := Lib.hid ((HS8.out).trans hk9 (fun _ _ e => e))
                have HQ9 : Hid (Keeps No w7 w9) := Lib.hid (HR8.out.trans hk9 (fun _ _ e => e))
                clear hk9 x3 x4 x5 x6 x7 x8 x9 x10
                go_wp2_with fail
                have hne9 : Nonempty (KW w9) := ⟨KW.of _⟩
                have HXF9 : Hid (∀ (j : Nat) (v : Value), x.cells[j]? = some v → ∀ u : KW w9, u.W.cell? ⟨wo.heap.size, j, none⟩ = some v) := Lib.hid (fun j v hj u => HXW.out _ (HK9.out.trans u.h (fun _ _ e => e)) j v hj)
                have x3 := HXF9.out 3 _ rfl
                have x4 := HXF9.out 4 _ rfl
                have x5 := HXF9.out 5 _ rfl
                have x6 := HXF9.out 6 _ rfl
                have x7 := HXF9.out 7 _ rfl
                have x8 := HXF9.out 8 _ rfl
                have x9 := HXF9.out 9 _ rfl
                have x10 := HXF9.out 10 _ rfl
                have HL9 := Lib.hid (fun (W : World) (hk : Keeps No w9 W) => tequal' (HT3.out.no (HK9.out.trans hk (fun _ _ e => e))) x.p x.q ⟨eb, ef⟩ HEV.out)
                refine wp_region_class (C := fun W => ∃ u : KW w9, W = u.W) (by kernel_rfl) (by kernel_rfl) ⟨⟨World.drew _, (Keeps.refl _ _).drew⟩, rfl⟩ ?_
                repeat (go_big_quiet_step (first | (go_at_call 15; first | with_reducible refine kw_call _ (of_m x.p _) | with_reducible refine kw_call _ (of_m x.q _)) | (go_at_call 23; with_reducible refine kw_call _ (HL9.out _ (KW.h _)))))
                refine wpQuiet_nil ?_
                rintro _ ⟨T9, rfl⟩
                have HR9 : Hid (Keeps No w7 T9.W) := Lib.hid (HQ9.out.trans T9.h (fun _ _ e => e))
                have HS9 : Hid (Keeps No w3 T9.W) := Lib.hid (HK9.out.trans T9.h (fun _ _ e => e))
                clear x3 x4 x5 x6 x7 x8 x9 x10 HL9 HXF9
                have x3 := HXW.out T9.W HS9.out 3 _ rfl
                have x4 := HXW.out T9.W HS9.out 4 _ rfl
                have x5 := HXW.out T9.W HS9.out 5 _ rfl
                have x6 := HXW.out T9.W HS9.out 6 _ rfl
                have x7 := HXW.out T9.W HS9.out 7 _ rfl
                have x8 := HXW.out T9.W HS9.out 8 _ rfl
                have x9 := HXW.out T9.W HS9.out 9 _ rfl
                have x10 := HXW.out T9.W HS9.out 10 _ rfl
                go_wp2_with fail
                refine (tdist (HT3.out.no HS9.out) x.p x.q ⟨db, df⟩ HDV.out HX.out.p HX.out.q).mono ?_
                rintro e w10 ⟨rfl, hk10⟩
                have HK10 : Hid (Keeps No w3 w10) := Lib.hid ((HS9.out).trans hk10 (fun _ _ e => e))
                have HQ10 : Hid (Keeps No w7 w10) := Lib.hid (HR9.out.trans hk10 (fun _ _ e => e))
                clear hk10 x3 x4 x5 x6 x7 x8 x9 x10
                go_wp2_with fail
                have hne10 : Nonempty (KW w10) := ⟨KW.of _⟩
                have HXF10 : Hid (∀ (j : Nat) (v : Value), x.cells[j]? = some v → ∀ u : KW w10, u.W.cell? ⟨wo.heap.size, j, none⟩ = some v) := Lib.hid (fun j v hj u => HXW.out _ (HK10.out.trans u.h (fun _ _ e => e)) j v hj)
                have x3 := HXF10.out 3 _ rfl
                have x4 := HXF10.out 4 _ rfl
                have x5 := HXF10.out 5 _ rfl
                have x6 := HXF10.out 6 _ rfl
                have x7 := HXF10.out 7 _ rfl
                have x8 := HXF10.out 8 _ rfl
                have x9 := HXF10.out 9 _ rfl
                have x10 := HXF10.out 10 _ rfl
                have HL10 := Lib.hid (fun (W : World) (hk : Keeps No w10 W) => tdist' (HT3.out.no (HK10.out.trans hk (fun _ _ e => e))) x.p x.q ⟨db, df⟩ HDV.out)
                refine wp_region_class (C := fun W => ∃ u : KW w10, W = u.W) (by kernel_rfl) (by kernel_rfl) ⟨⟨World.drew _, (Keeps.refl _ _).drew⟩, rfl⟩ ?_
                repeat (go_big_quiet_step (first | (go_at_call 15; first | with_reducible refine kw_call _ (of_m x.p _) | with_reducible refine kw_call _ (of_m x.q _)) | (go_at_call 25; with_reducible refine kw_call _ (HL10.out _ (KW.h _)))))
                refine wpQuiet_nil ?_
                rintro _ ⟨T10, rfl⟩
                have HR10 : Hid (Keeps No w7 T10.W) := Lib.hid (HQ10.out.trans T10.h (fun _ _ e => e))
                have HS10 : Hid (Keeps No w3 T10.W) := Lib.hid (HK10.out.trans T10.h (fun _ _ e => e))
                clear x3 x4 x5 x6 x7 x8 x9 x10 HL10 HXF10
                have x5 := HXW.out T10.W HS10.out 5 _ rfl
                cases hvb : V3 x.p.b with
                | none =>
                  have HTH := Lib.hid (fun (W : World) (hk : Keeps No w3 W) => tthere' (HT3.out.no hk) x.p.b false (by rw [hvb]; rfl))
                  obtain rfl : sz = 0 := by rw [← HSZ.out]; unfold sizeV; rw [hvb]; rfl
                  have HSIZE := Lib.hid (fun (W : World) (hk : Keeps No w3 W) => tsize (HT3.out.no hk) x.p.b 0 HSZ.out HX.out.p.2.2.1)
                  clear hvb
                  go_wp2_with fail
                  refine (HTH.out _ HS10.out).mono ?_
                  rintro e W12 ⟨rfl, hk12⟩
                  have HK12 : Hid (Keeps No w3 W12) := Lib.hid (HS10.out.trans hk12 (fun _ _ e => e))
                  have HKW : Hid (Keeps No w7 W12) := Lib.hid (HR10.out.trans hk12 (fun _ _ e => e))
                  have HSIZE := Lib.hid (fun (W : World) (hk : Keeps No W12 W) => HSIZE.out W (HK12.out.trans hk (fun _ _ e => e)))
                  clear hk12 x5
                  go_wp2_with fail
                  have hne12 : Nonempty (KW W12) := ⟨KW.of _⟩
                  have HC10 := Lib.hid (fun (u : KW W12) => ((HV10.out.keep HKW.out).keep u.h).c)
                  have HC12 := Lib.hid (fun (u : KW W12) => ((HV12.out.keep HKW.out).keep u.h).c)
                  have HC14 := Lib.hid (fun (u : KW W12) => ((HV14.out.keep HKW.out).keep u.h).c)
                  have HC16 := Lib.hid (fun (u : KW W12) => ((HV16.out.keep HKW.out).keep u.h).c)
                  have a0 : ∀ u : KW W12, u.W.cell? ⟨a10, 0, none⟩ = some (.int .i64 rk) := fun u => (HC10.out u).1
                  have a1 : ∀ u : KW W12, u.W.cell? ⟨a10, 1, none⟩ = some (.int .i64 rn) := fun u => (HC10.out u).2.1
                  have a2 : ∀ u : KW W12, u.W.cell? ⟨a10, 2, none⟩ = some (.int .i64 rb) := fun u => (HC10.out u).2.2.1
                  have a3 : ∀ u : KW W12, u.W.cell? ⟨a10, 3, none⟩ = some (.int .i64 ro) := fun u => (HC10.out u).2.2.2
                  have b0 : ∀ u : KW W12, u.W.cell? ⟨a12, 0, none⟩ = some (.int .i64 rk) := fun u => (HC12.out u).1
                  have b1 : ∀ u : KW W12, u.W.cell? ⟨a12, 1, none⟩ = some (.int .i64 rn) := fun u => (HC12.out u).2.1
                  have b2 : ∀ u : KW W12, u.W.cell? ⟨a12, 2, none⟩ = some (.int .i64 rb) := fun u => (HC12.out u).2.2.1
                  have b3 : ∀ u : KW W12, u.W.cell? ⟨a12, 3, none⟩ = some (.int .i64 ro) := fun u => (HC12.out u).2.2.2
                  have c0 : ∀ u : KW W12, u.W.cell? ⟨a14, 0, none⟩ = some (.int .i64 mk) := fun u => (HC14.out u).1
                  have c1 : ∀ u : KW W12, u.W.cell? ⟨a14, 1, none⟩ = some (.int .i64 mn) := fun u => (HC14.out u).2.1
                  have c2 : ∀ u : KW W12, u.W.cell? ⟨a14, 2, none⟩ = some (.int .i64 mb) := fun u => (HC14.out u).2.2.1
                  have c3 : ∀ u : KW W12, u.W.cell? ⟨a14, 3, none⟩ = some (.int .i64 mo) := fun u => (HC14.out u).2.2.2
                  have d0 : ∀ u : KW W12, u.W.cell? ⟨a16, 0, none⟩ = some (.int .i64 mk) := fun u => (HC16.out u).1
                  have d1 : ∀ u : KW W12, u.W.cell? ⟨a16, 1, none⟩ = some (.int .i64 mn) := fun u => (HC16.out u).2.1
                  have d2 : ∀ u : KW W12, u.W.cell? ⟨a16, 2, none⟩ = some (.int .i64 mb) := fun u => (HC16.out u).2.2.1
                  have d3 : ∀ u : KW W12, u.W.cell? ⟨a16, 3, none⟩ = some (.int .i64 mo) := fun u => (HC16.out u).2.2.2
                  have x5 : ∀ u : KW W12, u.W.cell? ⟨wo.heap.size, 5, none⟩ = some (.int .i64 x.p.b) := fun u => HXW.out _ (HK12.out.trans u.h (fun _ _ e => e)) 5 _ rfl
                  refine wp_region_class (C := fun W => ∃ u : KW W12, W = u.W) (by kernel_rfl) (by kernel_rfl) ⟨⟨World.drew _, (Keeps.refl _ _).drew⟩, rfl⟩ ?_
                  repeat (go_big_quiet_step (first | (go_at_call 15; first | with_reducible refine kw_call _ (of_m ⟨rk, rn, rb, ro⟩ _) | with_reducible refine kw_call _ (of_m ⟨mk, mn, mb, mo⟩ _)) | (go_at_call 27; with_reducible refine kw_call _ (HSIZE.out _ (KW.h _)))))
                  refine wpQuiet_nil ?_
                  rintro _ ⟨T13, rfl⟩
                  have HT13 : Hid (Two w T13.W m r V3 k3 V3 (k3 + 1) (fun _ => False)) := Lib.hid ((HT3.out.no (HK12.out.trans T13.h (fun _ _ e => e))).keep (Keeps.refl _ _) (fun a e => e.elim))
                  clear a0 a1 a2 a3 b0 b1 b2 b3 c0 c1 c2 c3 d0 d1 d2 d3 x5
                  go_wp2_with fail
                  exact Handed.intro (n - (i + 1)) (by omega) (hJ _ _ _ ⟨i + 1, V3, k3, ⟨_, rfl, ⟨rfl, rfl, rfl, congrArg some (by go_num), trivial⟩, rfl⟩, by omega, rfl, by omega, HT13⟩)
                | some d =>
                  have HTH := Lib.hid (fun (W : World) (hk : Keeps No w3 W) => tthere' (HT3.out.no hk) x.p.b true (by rw [hvb]; rfl))
                  obtain rfl : sz = d.size := by rw [← HSZ.out]; unfold sizeV; rw [hvb]; rfl
                  have HSIZE := Lib.hid (fun (W : World) (hk : Keeps No w3 W) => tsize (HT3.out.no hk) x.p.b d.size HSZ.out HX.out.p.2.2.1)
                  have HAT := Lib.hid (fun (W : World) (hk : Keeps No w3 W) => (HT3.out.no hk).at_ hvb)
                  clear hvb
                  go_wp2_with fail
                  refine (HTH.out _ HS10.out).mono ?_
                  rintro e w11 ⟨rfl, hk12⟩
                  have HK11 : Hid (Keeps No w3 w11) := Lib.hid (HS10.out.trans hk12 (fun _ _ e => e))
                  have HKW11 : Hid (Keeps No w7 w11) := Lib.hid (HR10.out.trans hk12 (fun _ _ e => e))
                  clear hk12 x5
                  obtain ⟨gg, ii, cc, ll, hib, hil, g0, g1⟩ := HAT.out _ HK11.out
                  have x5 := HXW.out w11 HK11.out 5 _ rfl
                  rw [hib] at x5
                  have hil' : (ii : Int) < (ll : Int) := by omega
                  have ii0 : (0 : Int) ≤ (ii : Int) := by omega
                  have HIB := Lib.hid hib
                  clear hib
                  go_wp2_with fail
                  go_quiet (fail)
                  go_wp2_with fail
                  obtain ⟨W12, hW12⟩ : ∃ W12, w11.drewN nq = W12 := ⟨_, rfl⟩
                  have HK12 : Hid (Keeps No w3 W12) := Lib.hid (by rw [← hW12]; exact HK11.out.drewN _)
                  have HKW : Hid (Keeps No w7 W12) := Lib.hid (by rw [← hW12]; exact HKW11.out.drewN _)
                  rw [hW12]
                  clear hW12 x5 g0 g1
                  have HSIZE : Hid (∀ (W : World) (hk : Keeps No W12 W), Calls Try.prog 27 #[.pointer (some ⟨m, 0, none⟩), .int .i64 (ii : Int)] W fun e w' => e = .returned (.int .i64 d.size) ∧ Keeps No W w') := Lib.hid (fun W hk => by have h := HSIZE.out W (HK12.out.trans hk (fun _ _ e => e)); rwa [HIB.out] at h)
                  have hne12 : Nonempty (KW W12) := ⟨KW.of _⟩
                  have HC10 := Lib.hid (fun (u : KW W12) => ((HV10.out.keep HKW.out).keep u.h).c)
                  have HC12 := Lib.hid (fun (u : KW W12) => ((HV12.out.keep HKW.out).keep u.h).c)
                  have HC14 := Lib.hid (fun (u : KW W12) => ((HV14.out.keep HKW.out).keep u.h).c)
                  have HC16 := Lib.hid (fun (u : KW W12) => ((HV16.out.keep HKW.out).keep u.h).c)
                  have a0 : ∀ u : KW W12, u.W.cell? ⟨a10, 0, none⟩ = some (.int .i64 rk) := fun u => (HC10.out u).1
                  have a1 : ∀ u : KW W12, u.W.cell? ⟨a10, 1, none⟩ = some (.int .i64 rn) := fun u => (HC10.out u).2.1
                  have a2 : ∀ u : KW W12, u.W.cell? ⟨a10, 2, none⟩ = some (.int .i64 rb) := fun u => (HC10.out u).2.2.1
                  have a3 : ∀ u : KW W12, u.W.cell? ⟨a10, 3, none⟩ = some (.int .i64 ro) := fun u => (HC10.out u).2.2.2
                  have b0 : ∀ u : KW W12, u.W.cell? ⟨a12, 0, none⟩ = some (.int .i64 rk) := fun u => (HC12.out u).1
                  have b1 : ∀ u : KW W12, u.W.cell? ⟨a12, 1, none⟩ = some (.int .i64 rn) := fun u => (HC12.out u).2.1
                  have b2 : ∀ u : KW W12, u.W.cell? ⟨a12, 2, none⟩ = some (.int .i64 rb) := fun u => (HC12.out u).2.2.1
                  have b3 : ∀ u : KW W12, u.W.cell? ⟨a12, 3, none⟩ = some (.int .i64 ro) := fun u => (HC12.out u).2.2.2
                  have c0 : ∀ u : KW W12, u.W.cell? ⟨a14, 0, none⟩ = some (.int .i64 mk) := fun u => (HC14.out u).1
                  have c1 : ∀ u : KW W12, u.W.cell? ⟨a14, 1, none⟩ = some (.int .i64 mn) := fun u => (HC14.out u).2.1
                  have c2 : ∀ u : KW W12, u.W.cell? ⟨a14, 2, none⟩ = some (.int .i64 mb) := fun u => (HC14.out u).2.2.1
                  have c3 : ∀ u : KW W12, u.W.cell? ⟨a14, 3, none⟩ = some (.int .i64 mo) := fun u => (HC14.out u).2.2.2
                  have d0 : ∀ u : KW W12, u.W.cell? ⟨a16, 0, none⟩ = some (.int .i64 mk) := fun u => (HC16.out u).1
                  have d1 : ∀ u : KW W12, u.W.cell? ⟨a16, 1, none⟩ = some (.int .i64 mn) := fun u => (HC16.out u).2.1
                  have d2 : ∀ u : KW W12, u.W.cell? ⟨a16, 2, none⟩ = some (.int .i64 mb) := fun u => (HC16.out u).2.2.1
                  have d3 : ∀ u : KW W12, u.W.cell? ⟨a16, 3, none⟩ = some (.int .i64 mo) := fun u => (HC16.out u).2.2.2
                  have x5 : ∀ u : KW W12, u.W.cell? ⟨wo.heap.size, 5, none⟩ = some (.int .i64 (ii : Int)) := fun u => by rw [← HIB.out]; exact HXW.out _ (HK12.out.trans u.h (fun _ _ e => e)) 5 _ rfl
                  refine wp_region_class (C := fun W => ∃ u : KW W12, W = u.W) (by kernel_rfl) (by kernel_rfl) ⟨⟨World.drew _, (Keeps.refl _ _).drew⟩, rfl⟩ ?_
                  repeat (go_big_quiet_step (first | (go_at_call 15; first | with_reducible refine kw_call _ (of_m ⟨rk, rn, rb, ro⟩ _) | with_reducible refine kw_call _ (of_m ⟨mk, mn, mb, mo⟩ _)) | (go_at_call 27; with_reducible refine kw_call _ (HSIZE.out _ (KW.h _)))))
                  refine wpQuiet_nil ?_
                  rintro _ ⟨T13, rfl⟩
                  have HT13 : Hid (Two w T13.W m r V3 k3 V3 (k3 + 1) (fun _ => False)) := Lib.hid ((HT3.out.no (HK12.out.trans T13.h (fun _ _ e => e))).keep (Keeps.refl _ _) (fun a e => e.elim))
                  clear a0 a1 a2 a3 b0 b1 b2 b3 c0 c1 c2 c3 d0 d1 d2 d3 x5
                  go_wp2_with fail
                  exact Handed.intro (n - (i + 1)) (by omega) (hJ _ _ _ ⟨i + 1, V3, k3, ⟨_, rfl, ⟨rfl, rfl, rfl, congrArg some (by go_num), trivial⟩, rfl⟩, by omega, rfl, by omega, HT13⟩)
              · intro J2 K2 hJ2 hK2
                have hne : Nonempty (KW W1) := ⟨KW.of _⟩
                have HXF : Hid (∀ (j : Nat) (v : Value), x.cells[j]? = some v → ∀ u : KW W1, u.W.cell? ⟨wo.heap.size, j, none⟩ = some v) := Lib.hid (fun j v hj u => u.cell ((H3.out.keep HW1.out (fun e => e)).at_ j _ (HI.out j _ hj)))
                have x3 := HXF.out 3 _ rfl
                have x4 := HXF.out 4 _ rfl
                have x5 := HXF.out 5 _ rfl
                have x6 := HXF.out 6 _ rfl
                have x16 := HXF.out 16 _ rfl
                refine Mix.wp_region_mix (fun W => ∃ u : KW W1, W = u.W) [] (by kernel_rfl) ?_
                refine Mix.mix_seg 0 3 10 (by kernel_rfl) (by kernel_rfl) rfl rfl ⟨⟨W1.drew, (Keeps.refl _ _).drew⟩, rfl⟩ ?_
                simp only [List.drop_succ_cons, List.drop_zero, List.take_succ_cons, List.take_zero]
                repeat (go_big_quiet_step (fail))
                refine wpQuiet_nil ?_
                refine Mix.mix_seg 4 2 8 (by kernel_rfl) (by kernel_rfl) rfl rfl ⟨⟨W1.drew, (Keeps.refl _ _).drew⟩, rfl⟩ ?_
                simp only [List.drop_succ_cons, List.drop_zero, List.take_succ_cons, List.take_zero]
                repeat (go_big_quiet_step (fail))
                refine wpQuiet_nil ?_
                clear x3 x4 x5 x6 x16
                refine Mix.mix_two 3 10 7 (by kernel_rfl) rfl rfl rfl ?_ ?_
                all_goals simp only [List.drop_succ_cons, List.drop_zero, List.take_succ_cons, List.take_zero]
                · go_wp2_with fail
                  refine (of_m x.p _).mono ?_
                  rintro e y1 ⟨rfl, hk1⟩
                  have HY1 : Hid (Keeps No W1 y1) := Lib.hid (((Keeps.refl No W1).drew).trans hk1 (fun _ _ e => e))
                  clear hk1
                  go_wp2_with fail
                  refine ⟨.inr ⟨⟨y1, HY1.out⟩, rfl⟩, ?_⟩
                  refine Mix.mix_two 6 10 6 (by kernel_rfl) rfl rfl rfl ?_ ?_
                  all_goals simp only [List.drop_succ_cons, List.drop_zero, List.take_succ_cons, List.take_zero]
                  · go_wp2_with fail
                    refine (tmove' (HT3.out.no (HW1.out.trans (HY1.out) (fun _ _ e => e))) x.p x.y ⟨⟨mk, mn, mb, mo⟩, mf⟩ HMV.out HX.out.p HX.out.y).mono ?_
                    rintro e y2 ⟨rfl, hk2⟩
                    have HY2 : Hid (Keeps No W1 y2) := Lib.hid ((HY1.out).trans hk2 (fun _ _ e => e))
                    clear hk2
                    go_wp2_with fail
                    refine ⟨.inr ⟨⟨y2, HY2.out⟩, rfl⟩, ?_⟩
                    refine Mix.mix_seg 7 3 3 (by kernel_rfl) (by kernel_rfl) rfl rfl ⟨⟨_, HY2.out⟩, rfl⟩ ?_
                    simp only [List.drop_succ_cons, List.drop_zero, List.take_succ_cons, List.take_zero]
                    repeat (go_big_quiet_step (fail))
                    refine wpQuiet_nil ?_
                    refine Mix.mix_one 10 2 (by kernel_rfl) rfl rfl ?_
                    simp only [List.drop_succ_cons, List.drop_zero, List.take_succ_cons, List.take_zero]
                    go_wp2_with fail
                    refine ⟨.inr ⟨⟨_, (HY2.out).alloc _⟩, rfl⟩, ?_⟩
                    have HZ3 : Hid ((y2.alloc (Obj.cells #[.int .i64 0, .int .i64 0, .int .i64 0, .int .i64 0] 42)).heap[y2.heap.size]? = some (.cells #[.int .i64 0, .int .i64 0, .int .i64 0, .int .i64 0] 42 (0, 0))) := Lib.hid (heap_alloc_new _ _)
                    have HL3 : Hid (W1.heap.size ≤ y2.heap.size) := Lib.hid HY2.out.size
                    refine Mix.mix_one 11 1 (by kernel_rfl) rfl rfl ?_
                    simp only [List.drop_succ_cons, List.drop_zero, List.take_succ_cons, List.take_zero]
                    refine wpList_store_row rfl _ _ _ rfl y2.heap.size _ rfl rfl _ _ HZ3.out infoV6z rfl (one4 _ _ _ _) ?_
                    go_wp2_with fail
                    refine ⟨.inr ⟨⟨_, ((HY2.out).alloc _).setRow HL3.out _⟩, rfl⟩, ?_⟩
                    refine Mix.mix_seg 12 1 0 (by kernel_rfl) (by kernel_rfl) rfl rfl ⟨⟨_, ((HY2.out).alloc _).setRow HL3.out _⟩, rfl⟩ ?_
                    simp only [List.drop_succ_cons, List.drop_zero, List.take_succ_cons, List.take_zero]
                    repeat (go_big_quiet_step (fail))
                    refine wpQuiet_nil ?_
                    refine Mix.mix_end (by kernel_rfl) ?_
                    exact hK2 _ _ (Met.intro (hJ2 _ _ ⟨w6.heap.size, y2.heap.size, ⟨_, rfl, ⟨rfl, rfl, rfl, rfl, rfl, rfl, rfl, rfl, rfl, rfl, rfl, rfl, rfl, rfl, trivial⟩, rfl⟩, Lib.hid (HW1.out.trans (((HY2.out).alloc _).setRow HL3.out _) (fun _ _ e => e)), Lib.hid (HV10.out.keep (((HY2.out).alloc _).setRow HL3.out _)), Lib.hid (HV12.out.keep (((HY2.out).alloc _).setRow HL3.out _)), Lib.hid (HV14.out.keep (((HY2.out).alloc _).setRow HL3.out _)), Lib.hid (setRow_heap _ _ _ _ _ _ HZ3.out)⟩))
                  · go_wp2_with fail
                    refine ⟨.inr ⟨⟨_, (HY1.out).alloc _⟩, rfl⟩, ?_⟩
                    have HZ2 : Hid ((y1.alloc (Obj.cells #[.int .i64 0, .int .i64 0, .int .i64 0, .int .i64 0] 42)).heap[y1.heap.size]? = some (.cells #[.int .i64 0, .int .i64 0, .int .i64 0, .int .i64 0] 42 (0, 0))) := Lib.hid (heap_alloc_new _ _)
                    have HL2 : Hid (W1.heap.size ≤ y1.heap.size) := Lib.hid HY1.out.size
                    refine Mix.mix_one 6 5 (by kernel_rfl) rfl rfl ?_
                    simp only [List.drop_succ_cons, List.drop_zero, List.take_succ_cons, List.take_zero]
                    go_wp2_with fail
                    refine (tmove' (HT3.out.no (HW1.out.trans ((HY1.out).alloc _) (fun _ _ e => e))) x.p x.y ⟨⟨mk, mn, mb, mo⟩, mf⟩ HMV.out HX.out.p HX.out.y).mono ?_
                    rintro e y3 ⟨rfl, hk3⟩
                    have HY3 : Hid (Keeps No W1 y3) := Lib.hid (((HY1.out).alloc _).trans hk3 (fun _ _ e => e))
                    have HZ3 := Lib.hid ((hk3.block y1.heap.size (Array.getElem?_eq_some_iff.1 HZ2.out).1 (fun e => e)).trans HZ2.out)
                    clear hk3
                    go_wp2_with fail
                    refine ⟨.inr ⟨⟨y3, HY3.out⟩, rfl⟩, ?_⟩
                    refine Mix.mix_seg 7 3 2 (by kernel_rfl) (by kernel_rfl) rfl rfl ⟨⟨_, HY3.out⟩, rfl⟩ ?_
                    simp only [List.drop_succ_cons, List.drop_zero, List.take_succ_cons, List.take_zero]
                    repeat (go_big_quiet_step (fail))
                    refine wpQuiet_nil ?_
                    refine Mix.mix_one 11 1 (by kernel_rfl) rfl rfl ?_
                    simp only [List.drop_succ_cons, List.drop_zero, List.take_succ_cons, List.take_zero]
                    refine wpList_store_row rfl _ _ _ rfl y1.heap.size _ rfl rfl _ _ HZ3.out infoV6z rfl (one4 _ _ _ _) ?_
                    go_wp2_with fail
                    refine ⟨.inr ⟨⟨_, (HY3.out).setRow HL2.out _⟩, rfl⟩, ?_⟩
                    refine Mix.mix_seg 12 1 0 (by kernel_rfl) (by kernel_rfl) rfl rfl ⟨⟨_, (HY3.out).setRow HL2.out _⟩, rfl⟩ ?_
                    simp only [List.drop_succ_cons, List.drop_zero, List.take_succ_cons, List.take_zero]
                    repeat (go_big_quiet_step (fail))
                    refine wpQuiet_nil ?_
                    refine Mix.mix_end (by kernel_rfl) ?_
                    exact hK2 _ _ (Met.intro (hJ2 _ _ ⟨w6.heap.size, y1.heap.size, ⟨_, rfl, ⟨rfl, rfl, rfl, rfl, rfl, rfl, rfl, rfl, rfl, rfl, rfl, rfl, rfl, rfl, trivial⟩, rfl⟩, Lib.hid (HW1.out.trans ((HY3.out).setRow HL2.out _) (fun _ _ e => e)), Lib.hid (HV10.out.keep ((HY3.out).setRow HL2.out _)), Lib.hid (HV12.out.keep ((HY3.out).setRow HL2.out _)), Lib.hid (HV14.out.keep ((HY3.out).setRow HL2.out _)), Lib.hid (setRow_heap _ _ _ _ _ _ HZ3.out)⟩))
                · go_wp2_with fail
                  refine ⟨.inr ⟨⟨_, ((Keeps.refl No W1).alloc _).drew⟩, rfl⟩, ?_⟩
                  have HZ1 : Hid ((W1.alloc (Obj.cells #[.int .i64 0, .int .i64 0, .int .i64 0, .int .i64 0] 42)).drew.heap[W1.heap.size]? = some (.cells #[.int .i64 0, .int .i64 0, .int .i64 0, .int .i64 0] 42 (0, 0))) := Lib.hid (heap_alloc_new _ _)
                  have HL1 : Hid (W1.heap.size ≤ W1.heap.size) := Lib.hid (Nat.le_refl _)
                  refine Mix.mix_one 3 6 (by kernel_rfl) rfl rfl ?_
                  simp only [List.drop_succ_cons, List.drop_zero, List.take_succ_cons, List.take_zero]
                  go_wp2_with fail
                  refine (of_m x.p _).mono ?_
                  rintro e y2 ⟨rfl, hk2⟩
                  have HY2 : Hid (Keeps No W1 y2) := Lib.hid ((((Keeps.refl No W1).alloc _).drew).trans hk2 (fun _ _ e => e))
                  have HZ2 := Lib.hid ((hk2.block W1.heap.size (Array.getElem?_eq_some_iff.1 HZ1.out).1 (fun e => e)).trans HZ1.out)
                  clear hk2
                  go_wp2_with fail
                  refine ⟨.inr ⟨⟨y2, HY2.out⟩, rfl⟩, ?_⟩
                  refine Mix.mix_one 6 5 (by kernel_rfl) rfl rfl ?_
                  simp only [List.drop_succ_cons, List.drop_zero, List.take_succ_cons, List.take_zero]
                  go_wp2_with fail
                  refine (tmove' (HT3.out.no (HW1.out.trans (HY2.out) (fun _ _ e => e))) x.p x.y ⟨⟨mk, mn, mb, mo⟩, mf⟩ HMV.out HX.out.p HX.out.y).mono ?_
                  rintro e y3 ⟨rfl, hk3⟩
                  have HY3 : Hid (Keeps No W1 y3) := Lib.hid ((HY2.out).trans hk3 (fun _ _ e => e))
                  have HZ3 := Lib.hid ((hk3.block W1.heap.size (Array.getElem?_eq_some_iff.1 HZ2.out).1 (fun e => e)).trans HZ2.out)
                  clear hk3
                  go_wp2_with fail
                  refine ⟨.inr ⟨⟨y3, HY3.out⟩, rfl⟩, ?_⟩
                  refine Mix.mix_seg 7 3 2 (by kernel_rfl) (by kernel_rfl) rfl rfl ⟨⟨_, HY3.out⟩, rfl⟩ ?_
                  simp only [List.drop_succ_cons, List.drop_zero, List.take_succ_cons, List.take_zero]
                  repeat (go_big_quiet_step (fail))
                  refine wpQuiet_nil ?_
                  refine Mix.mix_one 11 1 (by kernel_rfl) rfl rfl ?_
                  simp only [List.drop_succ_cons, List.drop_zero, List.take_succ_cons, List.take_zero]
                  refine wpList_store_row rfl _ _ _ rfl W1.heap.size _ rfl rfl _ _ HZ3.out infoV6z rfl (one4 _ _ _ _) ?_
                  go_wp2_with fail
                  refine ⟨.inr ⟨⟨_, (HY3.out).setRow HL1.out _⟩, rfl⟩, ?_⟩
                  refine Mix.mix_seg 12 1 0 (by kernel_rfl) (by kernel_rfl) rfl rfl ⟨⟨_, (HY3.out).setRow HL1.out _⟩, rfl⟩ ?_
                  simp only [List.drop_succ_cons, List.drop_zero, List.take_succ_cons, List.take_zero]
                  repeat (go_big_quiet_step (fail))
                  refine wpQuiet_nil ?_
                  refine Mix.mix_end (by kernel_rfl) ?_
                  exact hK2 _ _ (Met.intro (hJ2 _ _ ⟨w6.heap.size, W1.heap.size, ⟨_, rfl, ⟨rfl, rfl, rfl, rfl, rfl, rfl, rfl, rfl, rfl, rfl, rfl, rfl, rfl, rfl, trivial⟩, rfl⟩, Lib.hid (HW1.out.trans ((HY3.out).setRow HL1.out _) (fun _ _ e => e)), Lib.hid (HV10.out.keep ((HY3.out).setRow HL1.out _)), Lib.hid (HV12.out.keep ((HY3.out).setRow HL1.out _)), Lib.hid (HV14.out.keep ((HY3.out).setRow HL1.out _)), Lib.hid (setRow_heap _ _ _ _ _ _ HZ3.out)⟩))
            · intro J2 K2 hJ2 hK2
              have hne : Nonempty (KW W1) := ⟨KW.of _⟩
              have HXF : Hid (∀ (j : Nat) (v : Value), x.cells[j]? = some v → ∀ u : KW W1, u.W.cell? ⟨wo.heap.size, j, none⟩ = some v) := Lib.hid (fun j v hj u => u.cell ((H3.out.keep HW1.out (fun e => e)).at_ j _ (HI.out j _ hj)))
              have x3 := HXF.out 3 _ rfl
              have x4 := HXF.out 4 _ rfl
              have x5 := HXF.out 5 _ rfl
              have x6 := HXF.out 6 _ rfl
              have x15 := HXF.out 15 _ rfl
              refine Mix.wp_region_mix (fun W => ∃ u : KW W1, W = u.W) [] (by kernel_rfl) ?_
              refine Mix.mix_seg 0 3 10 (by kernel_rfl) (by kernel_rfl) rfl rfl ⟨⟨W1.drew, (Keeps.refl _ _).drew⟩, rfl⟩ ?_
              simp only [List.drop_succ_cons, List.drop_zero, List.take_succ_cons, List.take_zero]
              repeat (go_big_quiet_step (fail))
              refine wpQuiet_nil ?_
              refine Mix.mix_seg 4 2 8 (by kernel_rfl) (by kernel_rfl) rfl rfl ⟨⟨W1.drew, (Keeps.refl _ _).drew⟩, rfl⟩ ?_
              simp only [List.drop_succ_cons, List.drop_zero, List.take_succ_cons, List.take_zero]
              repeat (go_big_quiet_step (fail))
              refine wpQuiet_nil ?_
              clear x3 x4 x5 x6 x15
              refine Mix.mix_two 3 10 7 (by kernel_rfl) rfl rfl rfl ?_ ?_
              all_goals simp only [List.drop_succ_cons, List.drop_zero, List.take_succ_cons, List.take_zero]
              · go_wp2_with fail
                refine (of_m x.p _).mono ?_
                rintro e y1 ⟨rfl, hk1⟩
                have HY1 : Hid (Keeps No W1 y1) := Lib.hid (((Keeps.refl No W1).drew).trans hk1 (fun _ _ e => e))
                clear hk1
                go_wp2_with fail
                refine ⟨.inr ⟨⟨y1, HY1.out⟩, rfl⟩, ?_⟩
                refine Mix.mix_two 6 10 6 (by kernel_rfl) rfl rfl rfl ?_ ?_
                all_goals simp only [List.drop_succ_cons, List.drop_zero, List.take_succ_cons, List.take_zero]
                · go_wp2_with fail
                  refine (tread' (HT3.out.no (HW1.out.trans (HY1.out) (fun _ _ e => e))) x.p x.t ⟨⟨rk, rn, rb, ro⟩, rf⟩ HRV.out).mono ?_
                  rintro e y2 ⟨rfl, hk2⟩
                  have HY2 : Hid (Keeps No W1 y2) := Lib.hid ((HY1.out).trans hk2 (fun _ _ e => e))
                  clear hk2
                  go_wp2_with fail
                  refine ⟨.inr ⟨⟨y2, HY2.out⟩, rfl⟩, ?_⟩
                  refine Mix.mix_seg 7 3 3 (by kernel_rfl) (by kernel_rfl) rfl rfl ⟨⟨_, HY2.out⟩, rfl⟩ ?_
                  simp only [List.drop_succ_cons, List.drop_zero, List.take_succ_cons, List.take_zero]
                  repeat (go_big_quiet_step (fail))
                  refine wpQuiet_nil ?_
                  refine Mix.mix_one 10 2 (by kernel_rfl) rfl rfl ?_
                  simp only [List.drop_succ_cons, List.drop_zero, List.take_succ_cons, List.take_zero]
                  go_wp2_with fail
                  refine ⟨.inr ⟨⟨_, (HY2.out).alloc _⟩, rfl⟩, ?_⟩
                  have HZ3 : Hid ((y2.alloc (Obj.cells #[.int .i64 0, .int .i64 0, .int .i64 0, .int .i64 0] 42)).heap[y2.heap.size]? = some (.cells #[.int .i64 0, .int .i64 0, .int .i64 0, .int .i64 0] 42 (0, 0))) := Lib.hid (heap_alloc_new _ _)
                  have HL3 : Hid (W1.heap.size ≤ y2.heap.size) := Lib.hid HY2.out.size
                  refine Mix.mix_one 11 1 (by kernel_rfl) rfl rfl ?_
                  simp only [List.drop_succ_cons, List.drop_zero, List.take_succ_cons, List.take_zero]
                  refine wpList_store_row rfl _ _ _ rfl y2.heap.size _ rfl rfl _ _ HZ3.out infoV6z rfl (one4 _ _ _ _) ?_
                  go_wp2_with fail
                  refine ⟨.inr ⟨⟨_, ((HY2.out).alloc _).setRow HL3.out _⟩, rfl⟩, ?_⟩
                  refine Mix.mix_seg 12 1 0 (by kernel_rfl) (by kernel_rfl) rfl rfl ⟨⟨_, ((HY2.out).alloc _).setRow HL3.out _⟩, rfl⟩ ?_
                  simp only [List.drop_succ_cons, List.drop_zero, List.take_succ_cons, List.take_zero]
                  repeat (go_big_quiet_step (fail))
                  refine wpQuiet_nil ?_
                  refine Mix.mix_end (by kernel_rfl) ?_
                  exact hK2 _ _ (Met.intro (hJ2 _ _ ⟨w4.heap.size, y2.heap.size, ⟨_, rfl, ⟨rfl, rfl, rfl, rfl, rfl, rfl, rfl, rfl, rfl, rfl, trivial⟩, rfl⟩, Lib.hid (HW1.out.trans (((HY2.out).alloc _).setRow HL3.out _) (fun _ _ e => e)), Lib.hid (HV10.out.keep (((HY2.out).alloc _).setRow HL3.out _)), Lib.hid (setRow_heap _ _ _ _ _ _ HZ3.out)⟩))
                · go_wp2_with fail
                  refine ⟨.inr ⟨⟨_, (HY1.out).alloc _⟩, rfl⟩, ?_⟩
                  have HZ2 : Hid ((y1.alloc (Obj.cells #[.int .i64 0, .int .i64 0, .int .i64 0, .int .i64 0] 42)).heap[y1.heap.size]? = some (.cells #[.int .i64 0, .int .i64 0, .int .i64 0, .int .i64 0] 42 (0, 0))) := Lib.hid (heap_alloc_new _ _)
                  have HL2 : Hid (W1.heap.size ≤ y1.heap.size) := Lib.hid HY1.out.size
                  refine Mix.mix_one 6 5 (by kernel_rfl) rfl rfl ?_
                  simp only [List.drop_succ_cons, List.drop_zero, List.take_succ_cons, List.take_zero]
                  go_wp2_with fail
                  refine (tread' (HT3.out.no (HW1.out.trans ((HY1.out).alloc _) (fun _ _ e => e))) x.p x.t ⟨⟨rk, rn, rb, ro⟩, rf⟩ HRV.out).mono ?_
                  rintro e y3 ⟨rfl, hk3⟩
                  have HY3 : Hid (Keeps No W1 y3) := Lib.hid (((HY1.out).alloc _).trans hk3 (fun _ _ e => e))
                  have HZ3 := Lib.hid ((hk3.block y1.heap.size (Array.getElem?_eq_some_iff.1 HZ2.out).1 (fun e => e)).trans HZ2.out)
                  clear hk3
                  go_wp2_with fail
                  refine ⟨.inr ⟨⟨y3, HY3.out⟩, rfl⟩, ?_⟩
                  refine Mix.mix_seg 7 3 2 (by kernel_rfl) (by kernel_rfl) rfl rfl ⟨⟨_, HY3.out⟩, rfl⟩ ?_
                  simp only [List.drop_succ_cons, List.drop_zero, List.take_succ_cons, List.take_zero]
                  repeat (go_big_quiet_step (fail))
                  refine wpQuiet_nil ?_
                  refine Mix.mix_one 11 1 (by kernel_rfl) rfl rfl ?_
                  simp only [List.drop_succ_cons, List.drop_zero, List.take_succ_cons, List.take_zero]
                  refine wpList_store_row rfl _ _ _ rfl y1.heap.size _ rfl rfl _ _ HZ3.out infoV6z rfl (one4 _ _ _ _) ?_
                  go_wp2_with fail
                  refine ⟨.inr ⟨⟨_, (HY3.out).setRow HL2.out _⟩, rfl⟩, ?_⟩
                  refine Mix.mix_seg 12 1 0 (by kernel_rfl) (by kernel_rfl) rfl rfl ⟨⟨_, (HY3.out).setRow HL2.out _⟩, rfl⟩ ?_
                  simp only [List.drop_succ_cons, List.drop_zero, List.take_succ_cons, List.take_zero]
                  repeat (go_big_quiet_step (fail))
                  refine wpQuiet_nil ?_
                  refine Mix.mix_end (by kernel_rfl) ?_
                  exact hK2 _ _ (Met.intro (hJ2 _ _ ⟨w4.heap.size, y1.heap.size, ⟨_, rfl, ⟨rfl, rfl, rfl, rfl, rfl, rfl, rfl, rfl, rfl, rfl, trivial⟩, rfl⟩, Lib.hid (HW1.out.trans ((HY3.out).setRow HL2.out _) (fun _ _ e => e)), Lib.hid (HV10.out.keep ((HY3.out).setRow HL2.out _)), Lib.hid (setRow_heap _ _ _ _ _ _ HZ3.out)⟩))
              · go_wp2_with fail
                refine ⟨.inr ⟨⟨_, ((Keeps.refl No W1).alloc _).drew⟩, rfl⟩, ?_⟩
                have HZ1 : Hid ((W1.alloc (Obj.cells #[.int .i64 0, .int .i64 0, .int .i64 0, .int .i64 0] 42)).drew.heap[W1.heap.size]? = some (.cells #[.int .i64 0, .int .i64 0, .int .i64 0, .int .i64 0] 42 (0, 0))) := Lib.hid (heap_alloc_new _ _)
                have HL1 : Hid (W1.heap.size ≤ W1.heap.size) := Lib.hid (Nat.le_refl _)
                refine Mix.mix_one 3 6 (by kernel_rfl) rfl rfl ?_
                simp only [List.drop_succ_cons, List.drop_zero, List.take_succ_cons, List.take_zero]
                go_wp2_with fail
                refine (of_m x.p _).mono ?_
                rintro e y2 ⟨rfl, hk2⟩
                have HY2 : Hid (Keeps No W1 y2) := Lib.hid ((((Keeps.refl No W1).alloc _).drew).trans hk2 (fun _ _ e => e))
                have HZ2 := Lib.hid ((hk2.block W1.heap.size (Array.getElem?_eq_some_iff.1 HZ1.out).1 (fun e => e)).trans HZ1.out)
                clear hk2
                go_wp2_with fail
                refine ⟨.inr ⟨⟨y2, HY2.out⟩, rfl⟩, ?_⟩
                refine Mix.mix_one 6 5 (by kernel_rfl) rfl rfl ?_
                simp only [List.drop_succ_cons, List.drop_zero, List.take_succ_cons, List.take_zero]
                go_wp2_with fail
                refine (tread' (HT3.out.no (HW1.out.trans (HY2.out) (fun _ _ e => e))) x.p x.t ⟨⟨rk, rn, rb, ro⟩, rf⟩ HRV.out).mono ?_
                rintro e y3 ⟨rfl, hk3⟩
                have HY3 : Hid (Keeps No W1 y3) := Lib.hid ((HY2.out).trans hk3 (fun _ _ e => e))
                have HZ3 := Lib.hid ((hk3.block W1.heap.size (Array.getElem?_eq_some_iff.1 HZ2.out).1 (fun e => e)).trans HZ2.out)
                clear hk3
                go_wp2_with fail
                refine ⟨.inr ⟨⟨y3, HY3.out⟩, rfl⟩, ?_⟩
                refine Mix.mix_seg 7 3 2 (by kernel_rfl) (by kernel_rfl) rfl rfl ⟨⟨_, HY3.out⟩, rfl⟩ ?_
                simp only [List.drop_succ_cons, List.drop_zero, List.take_succ_cons, List.take_zero]
                repeat (go_big_quiet_step (fail))
                refine wpQuiet_nil ?_
                refine Mix.mix_one 11 1 (by kernel_rfl) rfl rfl ?_
                simp only [List.drop_succ_cons, List.drop_zero, List.take_succ_cons, List.take_zero]
                refine wpList_store_row rfl _ _ _ rfl W1.heap.size _ rfl rfl _ _ HZ3.out infoV6z rfl (one4 _ _ _ _) ?_
                go_wp2_with fail
                refine ⟨.inr ⟨⟨_, (HY3.out).setRow HL1.out _⟩, rfl⟩, ?_⟩
                refine Mix.mix_seg 12 1 0 (by kernel_rfl) (by kernel_rfl) rfl rfl ⟨⟨_, (HY3.out).setRow HL1.out _⟩, rfl⟩ ?_
                simp only [List.drop_succ_cons, List.drop_zero, List.take_succ_cons, List.take_zero]
                repeat (go_big_quiet_step (fail))
                refine wpQuiet_nil ?_
                refine Mix.mix_end (by kernel_rfl) ?_
                exact hK2 _ _ (Met.intro (hJ2 _ _ ⟨w4.heap.size, W1.heap.size, ⟨_, rfl, ⟨rfl, rfl, rfl, rfl, rfl, rfl, rfl, rfl, rfl, rfl, trivial⟩, rfl⟩, Lib.hid (HW1.out.trans ((HY3.out).setRow HL1.out _) (fun _ _ e => e)), Lib.hid (HV10.out.keep ((HY3.out).setRow HL1.out _)), Lib.hid (setRow_heap _ _ _ _ _ _ HZ3.out)⟩))
          · intro J1 K1 hJ1 hK1
            by_cases hd0 : x.d = 0
            · have hd0' : (x.d == 0) = true := beq_iff_eq.2 hd0
              clear hd0
              have hcn : x.cn ≤ 12 := by omega
              go_wp2_with fail
              go_loopg [8, 9] x.cn (fun g v8 v9 wr => ∃ j : Nat, v9 = .int .i64 (j : Int) ∧ j ≤ x.cn ∧ g = x.cn - j ∧ Hid (wr.ownsRow wx.heap.size 36 2 v8 j (crow (x.cl.take j))) ∧ Hid (Keeps No wx wr))
              case atStart => exact ⟨0, rfl, Nat.zero_le _, rfl, Lib.hid (World.ownsRow_nil _ _ _ _), Lib.hid (Keeps.refl _ _)⟩
              case round =>
                obtain ⟨j, rfl, hj, hg2, HO, HK⟩ := hrel
                by_cases hlj : j < x.cn
                · have hlj' : (j : Int) < (x.cn : Int) := by omega
                  have j0 : (0 : Int) ≤ (j : Int) := by omega
                  obtain ⟨⟨Y, S⟩, b2, off2, hy, hca, q1, q2, hyo, qb⟩ := HX.out.c.get hlj
                  simp only at q1 q2
                  obtain ⟨aa, c8, hv8, _⟩ := own_form HO.out
                  subst hv8
                  have HYB := Lib.hid (mrow_take hy)
                  have HYO := Lib.hid hyo
                  have hbx : w.heap.size ≤ wx.heap.size := HTB.out.below.size
                  have hso : ∀ q, (Value.slice aa j c8).ownBlock = some q → wx.heap.size ≤ q := fun q e => (HO.out.lt q e).1
                  have hne : Nonempty (KS (fun q => (Value.slice aa j c8).ownBlock = some q) wr) := ⟨⟨wr, Keeps.refl _ _⟩⟩
                  have z1 : ∀ u : KS (fun q => (Value.slice aa j c8).ownBlock = some q) wr, u.W.cell? ⟨b2, off2 + j * 2, none⟩ = some (.int .i64 Y) := fun u => u.cell (HK.out.cell (Below.cell_of HTB.out.below q1)) (fun e => by have h1 : wx.heap.size ≤ b2 := hso _ e; omega)
                  have z2 : ∀ u : KS (fun q => (Value.slice aa j c8).ownBlock = some q) wr, u.W.cell? ⟨b2, off2 + j * 2 + 1, none⟩ = some (.string S) := fun u => u.cell (HK.out.cell (Below.cell_of HTB.out.below q2)) (fun e => by have h1 : wx.heap.size ≤ b2 := hso _ e; omega)
                  have z3 : ∀ u : KS (fun q => (Value.slice aa j c8).ownBlock = some q) wr, u.W.cell? ⟨wo.heap.size, 2, none⟩ = some (.slice (some ⟨b2, off2, none⟩) x.cn x.cc) := fun u => u.cell (HK.out.cell (by rw [← hca]; exact H6.out.at_ 2 _ (HI.out 2 _ rfl))) (fun e => by have h1 : wx.heap.size ≤ wo.heap.size := hso _ e; have := (Array.getElem?_eq_some_iff.1 H6.out).1; omega)
                  have z4 : wr.cell? ⟨wo.heap.size, 2, none⟩ = some (.slice (some ⟨b2, off2, none⟩) x.cn x.cc) := z3 ⟨wr, Keeps.refl _ _⟩
                  have HSO := Lib.hid hso
                  have HCA := Lib.hid hca
                  clear hy hyo q1 q2 qb hso hbx x0 x1 x2 x15 hca
                  go_wp2_with fail
                  clear z4
                  refine Mix.wp_region_mix (fun W => ∃ u : KS (fun q => (Value.slice aa j c8).ownBlock = some q) wr, W = u.W) [] (by kernel_rfl) ?_
                  refine Mix.mix_seg 0 14 3 (by kernel_rfl) (by kernel_rfl) rfl rfl ⟨⟨wr.drew, (Keeps.refl _ _).drew⟩, rfl⟩ ?_
                  simp only [List.drop_succ_cons, List.drop_zero, List.take_succ_cons, List.take_zero]
                  repeat (go_big_quiet_step (fail))
                  refine wpQuiet_nil ?_
                  clear z1 z2 z3
                  refine Mix.mix_one 14 2 (by kernel_rfl) rfl rfl ?_
                  simp only [List.drop_succ_cons, List.drop_zero, List.take_succ_cons, List.take_zero]
                  go_wp2_with fail
                  refine ⟨.inr ⟨⟨_, ((Keeps.refl _ _).alloc _).drew⟩, rfl⟩, ?_⟩
                  refine Mix.mix_one 15 1 (by kernel_rfl) rfl rfl ?_
                  simp only [List.drop_succ_cons, List.drop_zero, List.take_succ_cons, List.take_zero]
                  have HOW : Hid ((wr.alloc (Obj.cells #[.int .i64 Y, .string S] 36)).drew.ownsRow wx.heap.size 36 2 (.slice aa j c8) j (crow (x.cl.take j))) := Lib.hid (HO.out.alloc _)
                  refine wpList_app2 _ rfl (.tmp 76) (.tmp 90) 33 36 rfl Try.underlying33 infoR6 wx.heap.size (.slice aa j c8) j (x.cl.take j) Y S wr.heap.size rfl HOW.out rfl (heap_alloc_new _ _) (by omega) (by have := HK.out.size; simp; omega) _ rfl ?_
                  intro g5 cap5 w5 hown5 hgr5 _
                  have HO5 : Hid (w5.ownsRow wx.heap.size 36 2 (.slice (some ⟨g5, 0, none⟩) (j + 1) cap5) (j + 1) (crow (x.cl.take (j + 1)))) := Lib.hid (by rw [HYB.out, crow_snoc]; exact hown5)
                  have HK5 : Hid (Keeps (fun q => (Value.slice aa j c8).ownBlock = some q) wr w5) := Lib.hid ((((Keeps.refl _ _).alloc _).drew).grown hgr5 (fun q e => .inl e))
                  have HKX : Hid (Keeps No wx w5) := Lib.hid ((((HK.out.alloc _).drew)).grown hgr5 (fun q e => .inr (HSO.out q e)))
                  clear hown5 hgr5
                  go_wp2_with fail
                  refine ⟨.inr ⟨⟨w5, HK5.out⟩, rfl⟩, ?_⟩
                  refine Mix.mix_seg 16 1 0 (by kernel_rfl) (by kernel_rfl) rfl rfl ⟨⟨w5, HK5.out⟩, rfl⟩ ?_
                  simp only [List.drop_succ_cons, List.drop_zero, List.take_succ_cons, List.take_zero]
                  repeat (go_big_quiet_step (fail))
                  refine wpQuiet_nil ?_
                  refine Mix.mix_end (by kernel_rfl) ?_
                  go_wp2_with fail
                  go_roundg (x.cn - (j + 1))
                  case rel => exact ⟨j + 1, by go_num, by omega, rfl, HO5, HKX⟩
                  case measure => omega
                · obtain rfl : j = x.cn := by omega
                  have hlj' : ¬ (x.cn : Int) < (x.cn : Int) := by omega
                  have HOF : Hid (wr.ownsRow wx.heap.size 36 2 u8 x.cn (crow x.cl)) := Lib.hid (by have h := HO.out; rwa [List.take_of_length_le (by rw [HX.out.c.len]; exact Nat.le_refl _)] at h)
                  obtain ⟨aa, c8, hv8, _⟩ := own_form HOF.out
                  subst hv8
                  have z4 : wr.cell? ⟨wo.heap.size, 2, none⟩ = some (.slice x.ca x.cn x.cc) := HK.out.cell (H6.out.at_ 2 _ (HI.out 2 _ rfl))
                  clear x0 x1 x2 x15
                  go_wp2_with fail
                  obtain ⟨Z, hZ⟩ : ∃ Z, (k : Int) + 1 = Z := ⟨_, rfl⟩
                  obtain ⟨VV, hVV⟩ : ∃ VV, setV V ((k : Int) + 1) (newV x.z (addM x.cl [] [])) = VV := ⟨_, rfl⟩
                  have HZ1 := Lib.hid hZ
                  have HZ2 : Hid (((k + 1 : Nat) : Int) = Z) := Lib.hid (by rw [← hZ]; rfl)
                  have HVV := Lib.hid hVV
                  have HVV2 : Hid (setV V ((k + 1 : Nat) : Int) (newV x.z (addM x.cl [] [])) = VV) := Lib.hid (by rw [← hVV]; rfl)
                  have hne : Nonempty (KS (fun q => q ≠ wo.heap.size) wr) := ⟨⟨wr, Keeps.refl _ _⟩⟩
                  have z1 : ∀ u : KS (fun q => q ≠ wo.heap.size) wr, u.W.cell? ⟨wo.heap.size, 1, none⟩ = some (.int .i64 x.z) := fun u => u.cell (HK.out.cell (H6.out.at_ 1 _ (HI.out 1 _ rfl))) (fun e => e rfl)
                  have z2 : ∀ u : KS (fun q => q ≠ wo.heap.size) wr, u.W.cell? ⟨wo.heap.size, 2, none⟩ = some (.slice x.ca x.cn x.cc) := fun u => u.cell (HK.out.cell (H6.out.at_ 2 _ (HI.out 2 _ rfl))) (fun e => e rfl)
                  clear z4 hZ hVV HO
                  refine Mix.wp_region_mix (fun W => ∃ u : KS (fun q => q ≠ wo.heap.size) wr, W = u.W) [] (by kernel_rfl) ?_
                  refine Mix.mix_seg 0 5 9 (by kernel_rfl) (by kernel_rfl) rfl rfl ⟨⟨wr.drew, (Keeps.refl _ _).drew⟩, rfl⟩ ?_
                  simp only [List.drop_succ_cons, List.drop_zero, List.take_succ_cons, List.take_zero]
                  repeat (go_big_quiet_step (fail))
                  refine wpQuiet_nil ?_
                  refine Mix.mix_seg 7 4 5 (by kernel_rfl) (by kernel_rfl) rfl rfl ⟨⟨wr.drew, (Keeps.refl _ _).drew⟩, rfl⟩ ?_
                  simp only [List.drop_succ_cons, List.drop_zero, List.take_succ_cons, List.take_zero]
                  repeat (go_big_quiet_step (fail))
                  refine wpQuiet_nil ?_
                  clear z1 z2
                  refine Mix.mix_one 5 4 (by kernel_rfl) rfl rfl ?_
                  simp only [List.drop_succ_cons, List.drop_zero, List.take_succ_cons, List.take_zero]
                  by_cases hcn0 : x.cn = 0
                  · have HCN := Lib.hid hcn0
                    rw [hcn0]
                    have HLN : Hid (x.cl.length = 0) := Lib.hid (by rw [HX.out.c.len]; exact HCN.out)
                    have HOF2 : Hid (wr.ownsRow wx.heap.size 36 2 (.slice aa 0 c8) 0 (crow x.cl)) := Lib.hid (by have h := HOF.out; rw [HCN.out] at h; exact h)
                    clear hcn0
                    refine wpList_app0 _ rfl (.const (.slice none 0 0)) (.tmp 96) 28 35 rfl Try.underlying28 infoC rfl x.ca x.cc rfl ?_
                    go_wp2_with fail
                    have HK5 : Hid (Keeps No wr wr.drew) := Lib.hid ((Keeps.refl _ _).drew)
                    have HC5 : Hid (CellsIn wr.drew none 0 x.cl) := Lib.hid (⟨HLN.out, HX.out.c.bd, fun h => by have := HCN.out; omega⟩)
                    have HT5 : Hid (Two w wr.drew m r V k V (k + 1) (fun q => q = wo.heap.size ∨ (Value.slice aa 0 c8).ownBlock = some q)) := Lib.hid (HTB.out.keep (HK.out.trans HK5.out (fun _ _ e => e)) (fun q e => by
                      rcases e with e | e
                      · exact .inl e
                      · exact .inr ⟨(HOF2.out.lt q e).1, Nat.lt_of_lt_of_le (HOF2.out.lt q e).2 HK5.out.size⟩))
                    have HO5 : Hid (wr.drew.ownsRow wx.heap.size 36 2 (.slice aa 0 c8) 0 (crow x.cl)) := Lib.hid (own_kept HOF2.out (fun q e => HK5.out.block q (HOF2.out.lt q e).2 (fun e => e)))
                    refine ⟨.inr ⟨⟨_, HK5.out.mono (fun _ _ e => e.elim)⟩, rfl⟩, ?_⟩
                    refine Mix.mix_one 6 3 (by kernel_rfl) rfl rfl ?_
                    simp only [List.drop_succ_cons, List.drop_zero, List.take_succ_cons, List.take_zero]
                    go_wp2_with fail
                    refine (tadd HT5.out x.z Z HZ1.out none 0 0 x.cl VV HVV.out HX.out.z HC5.out (by omega) (by omega)).mono ?_
                    rintro e w6 ⟨rfl, ht6, hk6⟩
                    have HT6 := Lib.hid ht6
                    have HK6 : Hid (Keeps (fun q => q ≠ wo.heap.size) wr w6) := Lib.hid ((HK5.out.mono (T := fun q => q ≠ wo.heap.size) (fun _ _ e => e.elim)).trans hk6 (fun q _ e e' => e.1 (.inl e')))
                    have HO6 : Hid (w6.ownsRow wx.heap.size 36 2 (.slice aa 0 c8) 0 (crow x.cl)) := Lib.hid (own_kept HO5.out (fun q e => hk6.block q (HO5.out.lt q e).2 (fun e' => e'.1 (.inr e))))
                    clear ht6 hk6
                    go_wp2_with fail
                    refine ⟨.inr ⟨⟨w6, HK6.out⟩, rfl⟩, ?_⟩
                    refine Mix.mix_one 11 2 (by kernel_rfl) rfl rfl ?_
                    simp only [List.drop_succ_cons, List.drop_zero, List.take_succ_cons, List.take_zero]
                    go_wp2_with fail
                    refine (tadd' HT6.out x.z Z HZ2.out aa 0 c8 x.cl VV HVV2.out HX.out.z (CellsIn.of_row HO6.out HLN.out HX.out.c.bd) (by omega) (by omega)).mono ?_
                    rintro e w7 ⟨rfl, ht7, hk7⟩
                    have HT7 := Lib.hid (ht7.keep (Y := fun q => q = wo.heap.size) (Keeps.refl _ _) (fun q e => .inl (.inl e)))
                    have HK7 : Hid (Keeps (fun q => q ≠ wo.heap.size) wr w7) := Lib.hid (HK6.out.trans hk7 (fun q _ e e' => e.1 (.inl e')))
                    clear ht7 hk7
                    go_wp2_with fail
                    refine ⟨.inr ⟨⟨w7, HK7.out⟩, rfl⟩, ?_⟩
                    refine Mix.mix_seg 12 2 0 (by kernel_rfl) (by kernel_rfl) rfl rfl ⟨⟨w7, HK7.out⟩, rfl⟩ ?_
                    simp only [List.drop_succ_cons, List.drop_zero, List.take_succ_cons, List.take_zero]
                    repeat (go_big_quiet_step (fail))
                    refine wpQuiet_nil ?_
                    refine Mix.mix_end (by kernel_rfl) ?_
                    go_wp2_with fail
                    exact Met.intro (hJ1 _ _ ⟨_, k + 1, ⟨_, rfl, ⟨rfl, rfl, rfl, rfl, rfl, rfl, trivial⟩, rfl⟩, by omega, HT7, Lib.hid ((H6.out.keep HK.out (fun e => e)).keep HK7.out (fun e => e rfl))⟩)

                  · obtain ⟨b3, off3, hca, hcr⟩ := HX.out.c.crow (by omega)
                    refine wpList_appN _ rfl (.const (.slice none 0 0)) (.tmp 96) 28 35 rfl Try.underlying28 infoC wr.heap.size (.slice none 0 0) 0 [] x.cl b3 off3 x.cn x.cc x.cn (by omega) rfl (World.ownsRow_nil _ _ _ _) (by rw [← hca]; rfl) HX.out.c.len (by omega) (fun j u hj => HK.out.drew.cell (Below.cell_of HTB.out.below (hcr j u hj))) (by omega) (Nat.le_refl _) ?_
                    intro g5 cap5 w5 ho5 hg5
                    have HO55 := Lib.hid ho5
                    have HG55 := Lib.hid hg5
                    clear ho5 hg5 hcr
                    have HCA := Lib.hid hca
                    clear hca
                    go_wp2_with fail
                    have HK5 : Hid (Keeps No wr w5) := Lib.hid (((Keeps.refl _ _).drew).grown HG55.out (fun q e => by cases e))
                    have HC5 : Hid (CellsIn w5 (some ⟨g5, 0, none⟩) x.cn x.cl) := Lib.hid (CellsIn.of_row HO55.out HX.out.c.len HX.out.c.bd)
                    have HT5 : Hid (Two w w5 m r V k V (k + 1) (fun q => q = wo.heap.size ∨ (Value.slice aa x.cn c8).ownBlock = some q)) := Lib.hid (HTB.out.keep (HK.out.trans HK5.out (fun _ _ e => e)) (fun q e => by
                      rcases e with e | e
                      · exact .inl e
                      · exact .inr ⟨(HOF.out.lt q e).1, Nat.lt_of_lt_of_le (HOF.out.lt q e).2 HK5.out.size⟩))
                    have HO5 : Hid (w5.ownsRow wx.heap.size 36 2 (.slice aa x.cn c8) x.cn (crow x.cl)) := Lib.hid (own_kept HOF.out (fun q e => HK5.out.block q (HOF.out.lt q e).2 (fun e => e)))
                    refine ⟨.inr ⟨⟨_, HK5.out.mono (fun _ _ e => e.elim)⟩, rfl⟩, ?_⟩
                    refine Mix.mix_one 6 3 (by kernel_rfl) rfl rfl ?_
                    simp only [List.drop_succ_cons, List.drop_zero, List.take_succ_cons, List.take_zero]
                    go_wp2_with fail
                    refine (tadd HT5.out x.z Z HZ1.out (some ⟨g5, 0, none⟩) x.cn cap5 x.cl VV HVV.out HX.out.z HC5.out (by omega) (by omega)).mono ?_
                    rintro e w6 ⟨rfl, ht6, hk6⟩
                    have HT6 := Lib.hid ht6
                    have HK6 : Hid (Keeps (fun q => q ≠ wo.heap.size) wr w6) := Lib.hid ((HK5.out.mono (T := fun q => q ≠ wo.heap.size) (fun _ _ e => e.elim)).trans hk6 (fun q _ e e' => e.1 (.inl e')))
                    have HO6 : Hid (w6.ownsRow wx.heap.size 36 2 (.slice aa x.cn c8) x.cn (crow x.cl)) := Lib.hid (own_kept HO5.out (fun q e => hk6.block q (HO5.out.lt q e).2 (fun e' => e'.1 (.inr e))))
                    clear ht6 hk6
                    go_wp2_with fail
                    refine ⟨.inr ⟨⟨w6, HK6.out⟩, rfl⟩, ?_⟩
                    refine Mix.mix_one 11 2 (by kernel_rfl) rfl rfl ?_
                    simp only [List.drop_succ_cons, List.drop_zero, List.take_succ_cons, List.take_zero]
                    go_wp2_with fail
                    refine (tadd' HT6.out x.z Z HZ2.out aa x.cn c8 x.cl VV HVV2.out HX.out.z (CellsIn.of_row HO6.out HX.out.c.len HX.out.c.bd) (by omega) (by omega)).mono ?_
                    rintro e w7 ⟨rfl, ht7, hk7⟩
                    have HT7 := Lib.hid (ht7.keep (Y := fun q => q = wo.heap.size) (Keeps.refl _ _) (fun q e => .inl (.inl e)))
                    have HK7 : Hid (Keeps (fun q => q ≠ wo.heap.size) wr w7) := Lib.hid (HK6.out.trans hk7 (fun q _ e e' => e.1 (.inl e')))
                    clear ht7 hk7
                    go_wp2_with fail
                    refine ⟨.inr ⟨⟨w7, HK7.out⟩, rfl⟩, ?_⟩
                    refine Mix.mix_seg 12 2 0 (by kernel_rfl) (by kernel_rfl) rfl rfl ⟨⟨w7, HK7.out⟩, rfl⟩ ?_
                    simp only [List.drop_succ_cons, List.drop_zero, List.take_succ_cons, List.take_zero]
                    repeat (go_big_quiet_step (fail))
                    refine wpQuiet_nil ?_
                    refine Mix.mix_end (by kernel_rfl) ?_
                    go_wp2_with fail
                    exact Met.intro (hJ1 _ _ ⟨_, k + 1, ⟨_, rfl, ⟨rfl, rfl, rfl, rfl, rfl, rfl, trivial⟩, rfl⟩, by omega, HT7, Lib.hid ((H6.out.keep HK.out (fun e => e)).keep HK7.out (fun e => e rfl))⟩)

            · have hd0' : (x.d == 0) = false := beq_eq_false_iff_ne.2 hd0
              by_cases hd1 : x.d = 1
              · have hd1' : (x.d == 1) = true := beq_iff_eq.2 hd1
                have x5 := H6.out.at_ 5 _ (HI.out 5 _ rfl)
                clear hd1
                go_wp2_with fail
                refine (tend HTB.out x.p.b _ rfl HX.out.p.2.2.1).mono ?_
                rintro e w4 ⟨rfl, ht4, hk4⟩
                have HT4 := Lib.hid ht4
                have HA4 := Lib.hid (H6.out.keep hk4 (fun e => e.1 rfl))
                clear ht4 hk4 x0 x1 x2 x15 x5
                have x5 := HA4.out.at_ 5 _ (HI.out 5 _ rfl)
                go_wp2_with fail
                refine (tend' HT4.out x.p.b _ rfl).mono ?_
                rintro e w5 ⟨rfl, ht5, hk5⟩
                have HT5 := Lib.hid ht5
                have HA5 := Lib.hid (HA4.out.keep hk5 (fun e => e.1 rfl))
                clear ht5 hk5 x5
                go_wp2_with fail
                exact Met.intro (hJ1 _ _ ⟨_, k, ⟨_, rfl, ⟨rfl, rfl, rfl, rfl, rfl, rfl, trivial⟩, rfl⟩, by omega, HT5, Lib.hid HA5.out⟩)
              · have hd1' : (x.d == 1) = false := beq_eq_false_iff_ne.2 hd1
                by_cases hd2 : x.d = 2
                · have hd2' : (x.d == 2) = true := beq_iff_eq.2 hd2
                  clear hd2
                  go_upto_region 25 with fail
                  have hne : Nonempty (KS (fun q => q ≠ wo.heap.size) wx) := ⟨⟨wx, Keeps.refl _ _⟩⟩
                  have HCA : Hid (∀ (j : Nat) (v : Value), x.cells[j]? = some v → ∀ u : KS (fun q => q ≠ wo.heap.size) wx, u.W.cell? ⟨wo.heap.size, j, none⟩ = some v) := Lib.hid (fun j v hj u => u.cell (H6.out.at_ j _ (HI.out j _ hj)) (fun e => e rfl))
                  clear x0 x1 x2 x15
                  have x3 := HCA.out 3 _ rfl
                  have x4 := HCA.out 4 _ rfl
                  have x5 := HCA.out 5 _ rfl
                  have x6 := HCA.out 6 _ rfl
                  have x11 := HCA.out 11 _ rfl
                  have x12 := HCA.out 12 _ rfl
                  have x13 := HCA.out 13 _ rfl
                  have x14 := HCA.out 14 _ rfl
                  have x15 := HCA.out 15 _ rfl
                  refine Mix.wp_region_mix (fun W => ∃ u : KS (fun q => q ≠ wo.heap.size) wx, W = u.W) [] (by kernel_rfl) ?_
                  refine Mix.mix_seg 0 7 13 (by kernel_rfl) (by kernel_rfl) rfl rfl ⟨⟨wx.drew, (Keeps.refl _ _).drew⟩, rfl⟩ ?_
                  simp only [List.drop_succ_cons, List.drop_zero, List.take_succ_cons, List.take_zero]
                  repeat (go_big_quiet_step (fail))
                  refine wpQuiet_nil ?_
                  refine Mix.mix_seg 8 3 10 (by kernel_rfl) (by kernel_rfl) rfl rfl ⟨⟨wx.drew, (Keeps.refl _ _).drew⟩, rfl⟩ ?_
                  simp only [List.drop_succ_cons, List.drop_zero, List.take_succ_cons, List.take_zero]
                  repeat (go_big_quiet_step (fail))
                  refine wpQuiet_nil ?_
                  refine Mix.mix_seg 12 4 6 (by kernel_rfl) (by kernel_rfl) rfl rfl ⟨⟨wx.drew, (Keeps.refl _ _).drew⟩, rfl⟩ ?_
                  simp only [List.drop_succ_cons, List.drop_zero, List.take_succ_cons, List.take_zero]
                  repeat (go_big_quiet_step (fail))
                  refine wpQuiet_nil ?_
                  clear x3 x4 x5 x6 x11 x12 x13 x14 x15
                  obtain ⟨X, hX⟩ : ∃ X, (cellV V x.p x.t).isSome = X := ⟨_, rfl⟩
                  have HXX := Lib.hid hX
                  clear hX
                  refine Mix.mix_one 7 5 (by kernel_rfl) rfl rfl ?_
                  simp only [List.drop_succ_cons, List.drop_zero, List.take_succ_cons, List.take_zero]
                  go_wp2_with fail
                  refine (twrite (HTB.out.no (Keeps.refl _ _).drew) x.p x.t x.v X _ HXX.out rfl HX.out.p HX.out.t).mono ?_
                  rintro e w4 ⟨rfl, ht4, hk4⟩
                  have HT4 := Lib.hid ht4
                  have HK4 : Hid (Keeps (fun q => q ≠ wo.heap.size) wx w4) := Lib.hid (((Keeps.refl _ _).drew).trans (hk4.mono (fun q _ e => e.1)) (fun q _ e => e))
                  clear ht4 hk4
                  go_wp2_with fail
                  refine ⟨.inr ⟨⟨w4, HK4.out⟩, rfl⟩, ?_⟩
                  refine Mix.mix_one 11 4 (by kernel_rfl) rfl rfl ?_
                  simp only [List.drop_succ_cons, List.drop_zero, List.take_succ_cons, List.take_zero]
                  go_wp2_with fail
                  refine (of_m x.p _).mono ?_
                  rintro e w5 ⟨rfl, hk5⟩
                  have HT5 := Lib.hid (HT4.out.no hk5)
                  have HK5 : Hid (Keeps (fun q => q ≠ wo.heap.size) wx w5) := Lib.hid (HK4.out.trans hk5 (fun q _ e => e.elim))
                  clear hk5
                  go_wp2_with fail
                  refine ⟨.inr ⟨⟨w5, HK5.out⟩, rfl⟩, ?_⟩
                  refine Mix.mix_one 16 3 (by kernel_rfl) rfl rfl ?_
                  simp only [List.drop_succ_cons, List.drop_zero, List.take_succ_cons, List.take_zero]
                  go_wp2_with fail
                  refine (of_m x.v _).mono ?_
                  rintro e w6 ⟨rfl, hk6⟩
                  have HT6 := Lib.hid (HT5.out.no hk6)
                  have HK6 : Hid (Keeps (fun q => q ≠ wo.heap.size) wx w6) := Lib.hid (HK5.out.trans hk6 (fun q _ e => e.elim))
                  clear hk6
                  go_wp2_with fail
                  refine ⟨.inr ⟨⟨w6, HK6.out⟩, rfl⟩, ?_⟩
                  refine Mix.mix_one 17 2 (by kernel_rfl) rfl rfl ?_
                  simp only [List.drop_succ_cons, List.drop_zero, List.take_succ_cons, List.take_zero]
                  go_wp2_with fail
                  refine (twrite' HT6.out x.p x.t x.v X _ HXX.out rfl).mono ?_
                  rintro e w7 ⟨rfl, ht7, hk7⟩
                  have HT7 := Lib.hid ht7
                  have HK7 : Hid (Keeps (fun q => q ≠ wo.heap.size) wx w7) := Lib.hid (HK6.out.trans (hk7.mono (fun q _ e => e.1)) (fun q _ e => e))
                  clear ht7 hk7
                  go_wp2_with fail
                  refine ⟨.inr ⟨⟨w7, HK7.out⟩, rfl⟩, ?_⟩
                  refine Mix.mix_seg 18 2 0 (by kernel_rfl) (by kernel_rfl) rfl rfl ⟨⟨w7, HK7.out⟩, rfl⟩ ?_
                  simp only [List.drop_succ_cons, List.drop_zero, List.take_succ_cons, List.take_zero]
                  repeat (go_big_quiet_step (fail))
                  refine wpQuiet_nil ?_
                  refine Mix.mix_end (by kernel_rfl) ?_
                  go_wp2_with fail
                  exact Met.intro (hJ1 _ _ ⟨_, k, ⟨_, rfl, ⟨rfl, rfl, rfl, rfl, rfl, rfl, trivial⟩, rfl⟩, by omega, HT7, Lib.hid (H6.out.keep HK7.out (fun e => e rfl))⟩)
                · have hd2' : (x.d == 2) = false := beq_eq_false_iff_ne.2 hd2
                  go_wp2_with fail
                  exact Met.intro (hJ1 _ _ ⟨V, k, ⟨_, rfl, ⟨rfl, rfl, rfl, rfl, rfl, rfl, trivial⟩, rfl⟩, by omega, HTB, H6⟩)
        · intro J1 K1 hJ1 hK1
          refine wp_region_lit ?_
          repeat (first | (refine wpList_load_mid rfl _ _ rfl b (off + i * 17) rfl C _ HC.out Try.underlying32 rfl HCL.out ?_) | (refine wpList_store_row rfl _ _ _ rfl wo.heap.size _ rfl rfl _ _ (heap_alloc_new _ _) HCL'.out HCS.out.symm HC1.out ?_) | go_values | go_skip | go_guarded | go_step | go_upon | go_back)
          exact hJ1 _ _ ⟨⟨_, rfl, ⟨rfl, rfl, rfl, rfl, rfl, trivial⟩, rfl⟩, Lib.hid (((Keeps.refl _ _).alloc _).setRow (Nat.le_refl _) _), Lib.hid (setRow_heap _ _ _ _ _ _ (heap_alloc_new _ _))⟩
      · obtain rfl : i = n := by omega
        have hlt' : ¬ (i : Int) < (i : Int) := by omega
        go_wp2_with fail
        refine (awake_true _).mono ?_
        rintro e w3 ⟨rfl, hb3⟩
        have HB := Lib.hid (HT.out.below.trans (hb3.mono HT.out.below.size))
        clear hb3
        go_wp2_with fail
        go_returns
        exact ⟨rfl, HB.out⟩
end Go.Proofs.Ytjchfldlmabblaa
