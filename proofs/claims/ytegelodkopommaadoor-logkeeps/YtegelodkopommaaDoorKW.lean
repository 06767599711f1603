/- LogKeeps' walk. -/
import Derived.Test.YtegelodkopommaaDoorKB
import Derived.Deep.LoopGhost
import Derived.Deep.Cut
import Derived.Deep.CutBlock
import Derived.Deep.RegionHeld3
namespace Go.Proofs.YtegelodkopommaaDoor
open Go.RowKit Go.Lib Go.Sort
set_option linter.unusedVariables false
set_option linter.unusedSimpArgs false

open Lo
/-- A frame's slots, as a function. -/
theorem frame_open (a : Act) (hs : a.tmps.toList.length = 349) (hd : a.defers = []) : ∃ g : Nat → Value, a = ⟨((List.range 349).map g).toArray, []⟩ ∧ ∀ i v, a.tmps.toList[i]? = some v → g i = v := by
  obtain ⟨tm, df⟩ := a
  simp only at hs hd
  subst hd
  refine ⟨fun i => tm.toList[i]?.getD default, ?_, fun i v h => by simp only at h; simp only [h, Option.getD_some]⟩
  congr 1
  apply Array.toList_inj.1
  apply List.ext_getElem
  · simp only [List.length_map, List.length_range, hs]
  · intro i h1 h2
    simp only [List.getElem_map, List.getElem_range]
    rw [List.getElem?_eq_getElem h1, Option.getD_some]
structure Fr1 (a : Act) (v0 v1 v2 v3 v18 v19 v20 v21 v22 v23 v164 : Value) : Prop where
  sz : a.tmps.toList.length = 349
  df : a.defers = []
  e0 : a.tmps.toList[0]? = some v0
  e1 : a.tmps.toList[1]? = some v1
  e2 : a.tmps.toList[2]? = some v2
  e3 : a.tmps.toList[3]? = some v3
  e18 : a.tmps.toList[18]? = some v18
  e19 : a.tmps.toList[19]? = some v19
  e20 : a.tmps.toList[20]? = some v20
  e21 : a.tmps.toList[21]? = some v21
  e22 : a.tmps.toList[22]? = some v22
  e23 : a.tmps.toList[23]? = some v23
  e164 : a.tmps.toList[164]? = some v164
set_option maxRecDepth 100000 in
theorem Fr1.open' {a : Act} {v0 v1 v2 v3 v18 v19 v20 v21 v22 v23 v164 : Value} (h : Fr1 a v0 v1 v2 v3 v18 v19 v20 v21 v22 v23 v164) : ∃ g : Nat → Value, a = ⟨#[v0, v1, v2, v3, g 4, g 5, g 6, g 7, g 8, g 9, g 10, g 11, g 12, g 13, g 14, g 15, g 16, g 17, v18, v19, v20, v21, v22, v23, g 24, g 25, g 26, g 27, g 28, g 29, g 30, g 31, g 32, g 33, g 34, g 35, g 36, g 37, g 38, g 39, g 40, g 41, g 42, g 43, g 44, g 45, g 46, g 47, g 48, g 49, g 50, g 51, g 52, g 53, g 54, g 55, g 56, g 57, g 58, g 59, g 60, g 61, g 62, g 63, g 64, g 65, g 66, g 67, g 68, g 69, g 70, g 71, g 72, g 73, g 74, g 75, g 76, g 77, g 78, g 79, g 80, g 81, g 82, g 83, g 84, g 85, g 86, g 87, g 88, g 89, g 90, g 91, g 92, g 93, g 94, g 95, g 96, g 97, g 98, g 99, g 100, g 101, g 102, g 103, g 104, g 105, g 106, g 107, g 108, g 109, g 110, g 111, g 112, g 113, g 114, g 115, g 116, g 117, g 118, g 119, g 120, g 121, g 122, g 123, g 124, g 125, g 126, g 127, g 128, g 129, g 130, g 131, g 132, g 133, g 134, g 135, g 136, g 137, g 138, g 139, g 140, g 141, g 142, g 143, g 144, g 145, g 146, g 147, g 148, g 149, g 150, g 151, g 152, g 153, g 154, g 155, g 156, g 157, g 158, g 159, g 160, g 161, g 162, g 163, v164, g 165, g 166, g 167, g 168, g 169, g 170, g 171, g 172, g 173, g 174, g 175, g 176, g 177, g 178, g 179, g 180, g 181, g 182, g 183, g 184, g 185, g 186, g 187, g 188, g 189, g 190, g 191, g 192, g 193, g 194, g 195, g 196, g 197, g 198, g 199, g 200, g 201, g 202, g 203, g 204, g 205, g 206, g 207, g 208, g 209, g 210, g 211, g 212, g 213, g 214, g 215, g 216, g 217, g 218, g 219, g 220, g 221, g 222, g 223, g 224, g 225, g 226, g 227, g 228, g 229, g 230, g 231, g 232, g 233, g 234, g 235, g 236, g 237, g 238, g 239, g 240, g 241, g 242, g 243, g 244, g 245, g 246, g 247, g 248, g 249, g 250, g 251, g 252, g 253, g 254, g 255, g 256, g 257, g 258, g 259, g 260, g 261, g 262, g 263, g 264, g 265, g 266, g 267, g 268, g 269, g 270, g 271, g 272, g 273, g 274, g 275, g 276, g 277, g 278, g 279, g 280, g 281, g 282, g 283, g 284, g 285, g 286, g 287, g 288, g 289, g 290, g 291, g 292, g 293, g 294, g 295, g 296, g 297, g 298, g 299, g 300, g 301, g 302, g 303, g 304, g 305, g 306, g 307, g 308, g 309, g 310, g 311, g 312, g 313, g 314, g 315, g 316, g 317, g 318, g 319, g 320, g 321, g 322, g 323, g 324, g 325, g 326, g 327, g 328, g 329, g 330, g 331, g 332, g 333, g 334, g 335, g 336, g 337, g 338, g 339, g 340, g 341, g 342, g 343, g 344, g 345, g 346, g 347, g 348], []⟩ := by
  obtain ⟨g, rfl, hg⟩ := frame_open a h.sz h.df
  obtain rfl := hg 0 _ h.e0
  obtain rfl := hg 1 _ h.e1
  obtain rfl := hg 2 _ h.e2
  obtain rfl := hg 3 _ h.e3
  obtain rfl := hg 18 _ h.e18
  obtain rfl := hg 19 _ h.e19
  obtain rfl := hg 20 _ h.e20
  obtain rfl := hg 21 _ h.e21
  obtain rfl := hg 22 _ h.e22
  obtain rfl := hg 23 _ h.e23
  obtain rfl := hg 164 _ h.e164
  exact ⟨g, rfl⟩
structure Fr2 (a : Act) (v0 v1 v2 v3 v18 v19 v20 v21 v22 v23 v24 v25 v26 : Value) : Prop where
  sz : a.tmps.toList.length = 349
  df : a.defers = []
  e0 : a.tmps.toList[0]? = some v0
  e1 : a.tmps.toList[1]? = some v1
  e2 : a.tmps.toList[2]? = some v2
  e3 : a.tmps.toList[3]? = some v3
  e18 : a.tmps.toList[18]? = some v18
  e19 : a.tmps.toList[19]? = some v19
  e20 : a.tmps.toList[20]? = some v20
  e21 : a.tmps.toList[21]? = some v21
  e22 : a.tmps.toList[22]? = some v22
  e23 : a.tmps.toList[23]? = some v23
  e24 : a.tmps.toList[24]? = some v24
  e25 : a.tmps.toList[25]? = some v25
  e26 : a.tmps.toList[26]? = some v26
set_option maxRecDepth 100000 in
theorem Fr2.open' {a : Act} {v0 v1 v2 v3 v18 v19 v20 v21 v22 v23 v24 v25 v26 : Value} (h : Fr2 a v0 v1 v2 v3 v18 v19 v20 v21 v22 v23 v24 v25 v26) : ∃ g : Nat → Value, a = ⟨#[v0, v1, v2, v3, g 4, g 5, g 6, g 7, g 8, g 9, g 10, g 11, g 12, g 13, g 14, g 15, g 16, g 17, v18, v19, v20, v21, v22, v23, v24, v25, v26, g 27, g 28, g 29, g 30, g 31, g 32, g 33, g 34, g 35, g 36, g 37, g 38, g 39, g 40, g 41, g 42, g 43, g 44, g 45, g 46, g 47, g 48, g 49, g 50, g 51, g 52, g 53, g 54, g 55, g 56, g 57, g 58, g 59, g 60, g 61, g 62, g 63, g 64, g 65, g 66, g 67, g 68, g 69, g 70, g 71, g 72, g 73, g 74, g 75, g 76, g 77, g 78, g 79, g 80, g 81, g 82, g 83, g 84, g 85, g 86, g 87, g 88, g 89, g 90, g 91, g 92, g 93, g 94, g 95, g 96, g 97, g 98, g 99, g 100, g 101, g 102, g 103, g 104, g 105, g 106, g 107, g 108, g 109, g 110, g 111, g 112, g 113, g 114, g 115, g 116, g 117, g 118, g 119, g 120, g 121, g 122, g 123, g 124, g 125, g 126, g 127, g 128, g 129, g 130, g 131, g 132, g 133, g 134, g 135, g 136, g 137, g 138, g 139, g 140, g 141, g 142, g 143, g 144, g 145, g 146, g 147, g 148, g 149, g 150, g 151, g 152, g 153, g 154, g 155, g 156, g 157, g 158, g 159, g 160, g 161, g 162, g 163, g 164, g 165, g 166, g 167, g 168, g 169, g 170, g 171, g 172, g 173, g 174, g 175, g 176, g 177, g 178, g 179, g 180, g 181, g 182, g 183, g 184, g 185, g 186, g 187, g 188, g 189, g 190, g 191, g 192, g 193, g 194, g 195, g 196, g 197, g 198, g 199, g 200, g 201, g 202, g 203, g 204, g 205, g 206, g 207, g 208, g 209, g 210, g 211, g 212, g 213, g 214, g 215, g 216, g 217, g 218, g 219, g 220, g 221, g 222, g 223, g 224, g 225, g 226, g 227, g 228, g 229, g 230, g 231, g 232, g 233, g 234, g 235, g 236, g 237, g 238, g 239, g 240, g 241, g 242, g 243, g 244, g 245, g 246, g 247, g 248, g 249, g 250, g 251, g 252, g 253, g 254, g 255, g 256, g 257, g 258, g 259, g 260, g 261, g 262, g 263, g 264, g 265, g 266, g 267, g 268, g 269, g 270, g 271, g 272, g 273, g 274, g 275, g 276, g 277, g 278, g 279, g 280, g 281, g 282, g 283, g 284, g 285, g 286, g 287, g 288, g 289, g 290, g 291, g 292, g 293, g 294, g 295, g 296, g 297, g 298, g 299, g 300, g 301, g 302, g 303, g 304, g 305, g 306, g 307, g 308, g 309, g 310, g 311, g 312, g 313, g 314, g 315, g 316, g 317, g 318, g 319, g 320, g 321, g 322, g 323, g 324, g 325, g 326, g 327, g 328, g 329, g 330, g 331, g 332, g 333, g 334, g 335, g 336, g 337, g 338, g 339, g 340, g 341, g 342, g 343, g 344, g 345, g 346, g 347, g 348], []⟩ := by
  obtain ⟨g, rfl, hg⟩ := frame_open a h.sz h.df
  obtain rfl := hg 0 _ h.e0
  obtain rfl := hg 1 _ h.e1
  obtain rfl := hg 2 _ h.e2
  obtain rfl := hg 3 _ h.e3
  obtain rfl := hg 18 _ h.e18
  obtain rfl := hg 19 _ h.e19
  obtain rfl := hg 20 _ h.e20
  obtain rfl := hg 21 _ h.e21
  obtain rfl := hg 22 _ h.e22
  obtain rfl := hg 23 _ h.e23
  obtain rfl := hg 24 _ h.e24
  obtain rfl := hg 25 _ h.e25
  obtain rfl := hg 26 _ h.e26
  exact ⟨g, rfl⟩
structure Fr3 (a : Act) (v0 v1 v2 v3 v18 v19 v20 v21 v22 v23 v24 v25 v26 v27 : Value) : Prop where
  sz : a.tmps.toList.length = 349
  df : a.defers = []
  e0 : a.tmps.toList[0]? = some v0
  e1 : a.tmps.toList[1]? = some v1
  e2 : a.tmps.toList[2]? = some v2
  e3 : a.tmps.toList[3]? = some v3
  e18 : a.tmps.toList[18]? = some v18
  e19 : a.tmps.toList[19]? = some v19
  e20 : a.tmps.toList[20]? = some v20
  e21 : a.tmps.toList[21]? = some v21
  e22 : a.tmps.toList[22]? = some v22
  e23 : a.tmps.toList[23]? = some v23
  e24 : a.tmps.toList[24]? = some v24
  e25 : a.tmps.toList[25]? = some v25
  e26 : a.tmps.toList[26]? = some v26
  e27 : a.tmps.toList[27]? = some v27
set_option maxRecDepth 100000 in
theorem Fr3.open' {a : Act} {v0 v1 v2 v3 v18 v19 v20 v21 v22 v23 v24 v25 v26 v27 : Value} (h : Fr3 a v0 v1 v2 v3 v18 v19 v20 v21 v22 v23 v24 v25 v26 v27) : ∃ g : Nat → Value, a = ⟨#[v0, v1, v2, v3, g 4, g 5, g 6, g 7, g 8, g 9, g 10, g 11, g 12, g 13, g 14, g 15, g 16, g 17, v18, v19, v20, v21, v22, v23, v24, v25, v26, v27, g 28, g 29, g 30, g 31, g 32, g 33, g 34, g 35, g 36, g 37, g 38, g 39, g 40, g 41, g 42, g 43, g 44, g 45, g 46, g 47, g 48, g 49, g 50, g 51, g 52, g 53, g 54, g 55, g 56, g 57, g 58, g 59, g 60, g 61, g 62, g 63, g 64, g 65, g 66, g 67, g 68, g 69, g 70, g 71, g 72, g 73, g 74, g 75, g 76, g 77, g 78, g 79, g 80, g 81, g 82, g 83, g 84, g 85, g 86, g 87, g 88, g 89, g 90, g 91, g 92, g 93, g 94, g 95, g 96, g 97, g 98, g 99, g 100, g 101, g 102, g 103, g 104, g 105, g 106, g 107, g 108, g 109, g 110, g 111, g 112, g 113, g 114, g 115, g 116, g 117, g 118, g 119, g 120, g 121, g 122, g 123, g 124, g 125, g 126, g 127, g 128, g 129, g 130, g 131, g 132, g 133, g 134, g 135, g 136, g 137, g 138, g 139, g 140, g 141, g 142, g 143, g 144, g 145, g 146, g 147, g 148, g 149, g 150, g 151, g 152, g 153, g 154, g 155, g 156, g 157, g 158, g 159, g 160, g 161, g 162, g 163, g 164, g 165, g 166, g 167, g 168, g 169, g 170, g 171, g 172, g 173, g 174, g 175, g 176, g 177, g 178, g 179, g 180, g 181, g 182, g 183, g 184, g 185, g 186, g 187, g 188, g 189, g 190, g 191, g 192, g 193, g 194, g 195, g 196, g 197, g 198, g 199, g 200, g 201, g 202, g 203, g 204, g 205, g 206, g 207, g 208, g 209, g 210, g 211, g 212, g 213, g 214, g 215, g 216, g 217, g 218, g 219, g 220, g 221, g 222, g 223, g 224, g 225, g 226, g 227, g 228, g 229, g 230, g 231, g 232, g 233, g 234, g 235, g 236, g 237, g 238, g 239, g 240, g 241, g 242, g 243, g 244, g 245, g 246, g 247, g 248, g 249, g 250, g 251, g 252, g 253, g 254, g 255, g 256, g 257, g 258, g 259, g 260, g 261, g 262, g 263, g 264, g 265, g 266, g 267, g 268, g 269, g 270, g 271, g 272, g 273, g 274, g 275, g 276, g 277, g 278, g 279, g 280, g 281, g 282, g 283, g 284, g 285, g 286, g 287, g 288, g 289, g 290, g 291, g 292, g 293, g 294, g 295, g 296, g 297, g 298, g 299, g 300, g 301, g 302, g 303, g 304, g 305, g 306, g 307, g 308, g 309, g 310, g 311, g 312, g 313, g 314, g 315, g 316, g 317, g 318, g 319, g 320, g 321, g 322, g 323, g 324, g 325, g 326, g 327, g 328, g 329, g 330, g 331, g 332, g 333, g 334, g 335, g 336, g 337, g 338, g 339, g 340, g 341, g 342, g 343, g 344, g 345, g 346, g 347, g 348], []⟩ := by
  obtain ⟨g, rfl, hg⟩ := frame_open a h.sz h.df
  obtain rfl := hg 0 _ h.e0
  obtain rfl := hg 1 _ h.e1
  obtain rfl := hg 2 _ h.e2
  obtain rfl := hg 3 _ h.e3
  obtain rfl := hg 18 _ h.e18
  obtain rfl := hg 19 _ h.e19
  obtain rfl := hg 20 _ h.e20
  obtain rfl := hg 21 _ h.e21
  obtain rfl := hg 22 _ h.e22
  obtain rfl := hg 23 _ h.e23
  obtain rfl := hg 24 _ h.e24
  obtain rfl := hg 25 _ h.e25
  obtain rfl := hg 26 _ h.e26
  obtain rfl := hg 27 _ h.e27
  exact ⟨g, rfl⟩
structure Fr4 (a : Act) (v0 v1 v2 v3 v18 v19 v20 v21 v22 v23 v270 : Value) : Prop where
  sz : a.tmps.toList.length = 349
  df : a.defers = []
  e0 : a.tmps.toList[0]? = some v0
  e1 : a.tmps.toList[1]? = some v1
  e2 : a.tmps.toList[2]? = some v2
  e3 : a.tmps.toList[3]? = some v3
  e18 : a.tmps.toList[18]? = some v18
  e19 : a.tmps.toList[19]? = some v19
  e20 : a.tmps.toList[20]? = some v20
  e21 : a.tmps.toList[21]? = some v21
  e22 : a.tmps.toList[22]? = some v22
  e23 : a.tmps.toList[23]? = some v23
  e270 : a.tmps.toList[270]? = some v270
set_option maxRecDepth 100000 in
theorem Fr4.open' {a : Act} {v0 v1 v2 v3 v18 v19 v20 v21 v22 v23 v270 : Value} (h : Fr4 a v0 v1 v2 v3 v18 v19 v20 v21 v22 v23 v270) : ∃ g : Nat → Value, a = ⟨#[v0, v1, v2, v3, g 4, g 5, g 6, g 7, g 8, g 9, g 10, g 11, g 12, g 13, g 14, g 15, g 16, g 17, v18, v19, v20, v21, v22, v23, g 24, g 25, g 26, g 27, g 28, g 29, g 30, g 31, g 32, g 33, g 34, g 35, g 36, g 37, g 38, g 39, g 40, g 41, g 42, g 43, g 44, g 45, g 46, g 47, g 48, g 49, g 50, g 51, g 52, g 53, g 54, g 55, g 56, g 57, g 58, g 59, g 60, g 61, g 62, g 63, g 64, g 65, g 66, g 67, g 68, g 69, g 70, g 71, g 72, g 73, g 74, g 75, g 76, g 77, g 78, g 79, g 80, g 81, g 82, g 83, g 84, g 85, g 86, g 87, g 88, g 89, g 90, g 91, g 92, g 93, g 94, g 95, g 96, g 97, g 98, g 99, g 100, g 101, g 102, g 103, g 104, g 105, g 106, g 107, g 108, g 109, g 110, g 111, g 112, g 113, g 114, g 115, g 116, g 117, g 118, g 119, g 120, g 121, g 122, g 123, g 124, g 125, g 126, g 127, g 128, g 129, g 130, g 131, g 132, g 133, g 134, g 135, g 136, g 137, g 138, g 139, g 140, g 141, g 142, g 143, g 144, g 145, g 146, g 147, g 148, g 149, g 150, g 151, g 152, g 153, g 154, g 155, g 156, g 157, g 158, g 159, g 160, g 161, g 162, g 163, g 164, g 165, g 166, g 167, g 168, g 169, g 170, g 171, g 172, g 173, g 174, g 175, g 176, g 177, g 178, g 179, g 180, g 181, g 182, g 183, g 184, g 185, g 186, g 187, g 188, g 189, g 190, g 191, g 192, g 193, g 194, g 195, g 196, g 197, g 198, g 199, g 200, g 201, g 202, g 203, g 204, g 205, g 206, g 207, g 208, g 209, g 210, g 211, g 212, g 213, g 214, g 215, g 216, g 217, g 218, g 219, g 220, g 221, g 222, g 223, g 224, g 225, g 226, g 227, g 228, g 229, g 230, g 231, g 232, g 233, g 234, g 235, g 236, g 237, g 238, g 239, g 240, g 241, g 242, g 243, g 244, g 245, g 246, g 247, g 248, g 249, g 250, g 251, g 252, g 253, g 254, g 255, g 256, g 257, g 258, g 259, g 260, g 261, g 262, g 263, g 264, g 265, g 266, g 267, g 268, g 269, v270, g 271, g 272, g 273, g 274, g 275, g 276, g 277, g 278, g 279, g 280, g 281, g 282, g 283, g 284, g 285, g 286, g 287, g 288, g 289, g 290, g 291, g 292, g 293, g 294, g 295, g 296, g 297, g 298, g 299, g 300, g 301, g 302, g 303, g 304, g 305, g 306, g 307, g 308, g 309, g 310, g 311, g 312, g 313, g 314, g 315, g 316, g 317, g 318, g 319, g 320, g 321, g 322, g 323, g 324, g 325, g 326, g 327, g 328, g 329, g 330, g 331, g 332, g 333, g 334, g 335, g 336, g 337, g 338, g 339, g 340, g 341, g 342, g 343, g 344, g 345, g 346, g 347, g 348], []⟩ := by
  obtain ⟨g, rfl, hg⟩ := frame_open a h.sz h.df
  obtain rfl := hg 0 _ h.e0
  obtain rfl := hg 1 _ h.e1
  obtain rfl := hg 2 _ h.e2
  obtain rfl := hg 3 _ h.e3
  obtain rfl := hg 18 _ h.e18
  obtain rfl := hg 19 _ h.e19
  obtain rfl := hg 20 _ h.e20
  obtain rfl := hg 21 _ h.e21
  obtain rfl := hg 22 _ h.e22
  obtain rfl := hg 23 _ h.e23
  obtain rfl := hg 270 _ h.e270
  exact ⟨g, rfl⟩
structure Fr5 (a : Act) (v0 v1 v2 v3 v18 v19 v20 v21 v22 v23 v25 v27 v29 v30 v31 v32 v33 v233 : Value) : Prop where
  sz : a.tmps.toList.length = 349
  df : a.defers = []
  e0 : a.tmps.toList[0]? = some v0
  e1 : a.tmps.toList[1]? = some v1
  e2 : a.tmps.toList[2]? = some v2
  e3 : a.tmps.toList[3]? = some v3
  e18 : a.tmps.toList[18]? = some v18
  e19 : a.tmps.toList[19]? = some v19
  e20 : a.tmps.toList[20]? = some v20
  e21 : a.tmps.toList[21]? = some v21
  e22 : a.tmps.toList[22]? = some v22
  e23 : a.tmps.toList[23]? = some v23
  e25 : a.tmps.toList[25]? = some v25
  e27 : a.tmps.toList[27]? = some v27
  e29 : a.tmps.toList[29]? = some v29
  e30 : a.tmps.toList[30]? = some v30
  e31 : a.tmps.toList[31]? = some v31
  e32 : a.tmps.toList[32]? = some v32
  e33 : a.tmps.toList[33]? = some v33
  e233 : a.tmps.toList[233]? = some v233
set_option maxRecDepth 100000 in
theorem Fr5.open' {a : Act} {v0 v1 v2 v3 v18 v19 v20 v21 v22 v23 v25 v27 v29 v30 v31 v32 v33 v233 : Value} (h : Fr5 a v0 v1 v2 v3 v18 v19 v20 v21 v22 v23 v25 v27 v29 v30 v31 v32 v33 v233) : ∃ g : Nat → Value, a = ⟨#[v0, v1, v2, v3, g 4, g 5, g 6, g 7, g 8, g 9, g 10, g 11, g 12, g 13, g 14, g 15, g 16, g 17, v18, v19, v20, v21, v22, v23, g 24, v25, g 26, v27, g 28, v29, v30, v31, v32, v33, g 34, g 35, g 36, g 37, g 38, g 39, g 40, g 41, g 42, g 43, g 44, g 45, g 46, g 47, g 48, g 49, g 50, g 51, g 52, g 53, g 54, g 55, g 56, g 57, g 58, g 59, g 60, g 61, g 62, g 63, g 64, g 65, g 66, g 67, g 68, g 69, g 70, g 71, g 72, g 73, g 74, g 75, g 76, g 77, g 78, g 79, g 80, g 81, g 82, g 83, g 84, g 85, g 86, g 87, g 88, g 89, g 90, g 91, g 92, g 93, g 94, g 95, g 96, g 97, g 98, g 99, g 100, g 101, g 102, g 103, g 104, g 105, g 106, g 107, g 108, g 109, g 110, g 111, g 112, g 113, g 114, g 115, g 116, g 117, g 118, g 119, g 120, g 121, g 122, g 123, g 124, g 125, g 126, g 127, g 128, g 129, g 130, g 131, g 132, g 133, g 134, g 135, g 136, g 137, g 138, g 139, g 140, g 141, g 142, g 143, g 144, g 145, g 146, g 147, g 148, g 149, g 150, g 151, g 152, g 153, g 154, g 155, g 156, g 157, g 158, g 159, g 160, g 161, g 162, g 163, g 164, g 165, g 166, g 167, g 168, g 169, g 170, g 171, g 172, g 173, g 174, g 175, g 176, g 177, g 178, g 179, g 180, g 181, g 182, g 183, g 184, g 185, g 186, g 187, g 188, g 189, g 190, g 191, g 192, g 193, g 194, g 195, g 196, g 197, g 198, g 199, g 200, g 201, g 202, g 203, g 204, g 205, g 206, g 207, g 208, g 209, g 210, g 211, g 212, g 213, g 214, g 215, g 216, g 217, g 218, g 219, g 220, g 221, g 222, g 223, g 224, g 225, g 226, g 227, g 228, g 229, g 230, g 231, g 232, v233, g 234, g 235, g 236, g 237, g 238, g 239, g 240, g 241, g 242, g 243, g 244, g 245, g 246, g 247, g 248, g 249, g 250, g 251, g 252, g 253, g 254, g 255, g 256, g 257, g 258, g 259, g 260, g 261, g 262, g 263, g 264, g 265, g 266, g 267, g 268, g 269, g 270, g 271, g 272, g 273, g 274, g 275, g 276, g 277, g 278, g 279, g 280, g 281, g 282, g 283, g 284, g 285, g 286, g 287, g 288, g 289, g 290, g 291, g 292, g 293, g 294, g 295, g 296, g 297, g 298, g 299, g 300, g 301, g 302, g 303, g 304, g 305, g 306, g 307, g 308, g 309, g 310, g 311, g 312, g 313, g 314, g 315, g 316, g 317, g 318, g 319, g 320, g 321, g 322, g 323, g 324, g 325, g 326, g 327, g 328, g 329, g 330, g 331, g 332, g 333, g 334, g 335, g 336, g 337, g 338, g 339, g 340, g 341, g 342, g 343, g 344, g 345, g 346, g 347, g 348], []⟩ := by
  obtain ⟨g, rfl, hg⟩ := frame_open a h.sz h.df
  obtain rfl := hg 0 _ h.e0
  obtain rfl := hg 1 _ h.e1
  obtain rfl := hg 2 _ h.e2
  obtain rfl := hg 3 _ h.e3
  obtain rfl := hg 18 _ h.e18
  obtain rfl := hg 19 _ h.e19
  obtain rfl := hg 20 _ h.e20
  obtain rfl := hg 21 _ h.e21
  obtain rfl := hg 22 _ h.e22
  obtain rfl := hg 23 _ h.e23
  obtain rfl := hg 25 _ h.e25
  obtain rfl := hg 27 _ h.e27
  obtain rfl := hg 29 _ h.e29
  obtain rfl := hg 30 _ h.e30
  obtain rfl := hg 31 _ h.e31
  obtain rfl := hg 32 _ h.e32
  obtain rfl := hg 33 _ h.e33
  obtain rfl := hg 233 _ h.e233
  exact ⟨g, rfl⟩
structure Fr6 (a : Act) (v0 v1 v2 v3 v18 v19 v20 v21 v22 v23 v25 v27 v29 v30 v31 v32 v33 v238 : Value) : Prop where
  sz : a.tmps.toList.length = 349
  df : a.defers = []
  e0 : a.tmps.toList[0]? = some v0
  e1 : a.tmps.toList[1]? = some v1
  e2 : a.tmps.toList[2]? = some v2
  e3 : a.tmps.toList[3]? = some v3
  e18 : a.tmps.toList[18]? = some v18
  e19 : a.tmps.toList[19]? = some v19
  e20 : a.tmps.toList[20]? = some v20
  e21 : a.tmps.toList[21]? = some v21
  e22 : a.tmps.toList[22]? = some v22
  e23 : a.tmps.toList[23]? = some v23
  e25 : a.tmps.toList[25]? = some v25
  e27 : a.tmps.toList[27]? = some v27
  e29 : a.tmps.toList[29]? = some v29
  e30 : a.tmps.toList[30]? = some v30
  e31 : a.tmps.toList[31]? = some v31
  e32 : a.tmps.toList[32]? = some v32
  e33 : a.tmps.toList[33]? = some v33
  e238 : a.tmps.toList[238]? = some v238
set_option maxRecDepth 100000 in
theorem Fr6.open' {a : Act} {v0 v1 v2 v3 v18 v19 v20 v21 v22 v23 v25 v27 v29 v30 v31 v32 v33 v238 : Value} (h : Fr6 a v0 v1 v2 v3 v18 v19 v20 v21 v22 v23 v25 v27 v29 v30 v31 v32 v33 v238) : ∃ g : Nat → Value, a = ⟨#[v0, v1, v2, v3, g 4, g 5, g 6, g 7, g 8, g 9, g 10, g 11, g 12, g 13, g 14, g 15, g 16, g 17, v18, v19, v20, v21, v22, v23, g 24, v25, g 26, v27, g 28, v29, v30, v31, v32, v33, g 34, g 35, g 36, g 37, g 38, g 39, g 40, g 41, g 42, g 43, g 44, g 45, g 46, g 47, g 48, g 49, g 50, g 51, g 52, g 53, g 54, g 55, g 56, g 57, g 58, g 59, g 60, g 61, g 62, g 63, g 64, g 65, g 66, g 67, g 68, g 69, g 70, g 71, g 72, g 73, g 74, g 75, g 76, g 77, g 78, g 79, g 80, g 81, g 82, g 83, g 84, g 85, g 86, g 87, g 88, g 89, g 90, g 91, g 92, g 93, g 94, g 95, g 96, g 97, g 98, g 99, g 100, g 101, g 102, g 103, g 104, g 105, g 106, g 107, g 108, g 109, g 110, g 111, g 112, g 113, g 114, g 115, g 116, g 117, g 118, g 119, g 120, g 121, g 122, g 123, g 124, g 125, g 126, g 127, g 128, g 129, g 130, g 131, g 132, g 133, g 134, g 135, g 136, g 137, g 138, g 139, g 140, g 141, g 142, g 143, g 144, g 145, g 146, g 147, g 148, g 149, g 150, g 151, g 152, g 153, g 154, g 155, g 156, g 157, g 158, g 159, g 160, g 161, g 162, g 163, g 164, g 165, g 166, g 167, g 168, g 169, g 170, g 171, g 172, g 173, g 174, g 175, g 176, g 177, g 178, g 179, g 180, g 181, g 182, g 183, g 184, g 185, g 186, g 187, g 188, g 189, g 190, g 191, g 192, g 193, g 194, g 195, g 196, g 197, g 198, g 199, g 200, g 201, g 202, g 203, g 204, g 205, g 206, g 207, g 208, g 209, g 210, g 211, g 212, g 213, g 214, g 215, g 216, g 217, g 218, g 219, g 220, g 221, g 222, g 223, g 224, g 225, g 226, g 227, g 228, g 229, g 230, g 231, g 232, g 233, g 234, g 235, g 236, g 237, v238, g 239, g 240, g 241, g 242, g 243, g 244, g 245, g 246, g 247, g 248, g 249, g 250, g 251, g 252, g 253, g 254, g 255, g 256, g 257, g 258, g 259, g 260, g 261, g 262, g 263, g 264, g 265, g 266, g 267, g 268, g 269, g 270, g 271, g 272, g 273, g 274, g 275, g 276, g 277, g 278, g 279, g 280, g 281, g 282, g 283, g 284, g 285, g 286, g 287, g 288, g 289, g 290, g 291, g 292, g 293, g 294, g 295, g 296, g 297, g 298, g 299, g 300, g 301, g 302, g 303, g 304, g 305, g 306, g 307, g 308, g 309, g 310, g 311, g 312, g 313, g 314, g 315, g 316, g 317, g 318, g 319, g 320, g 321, g 322, g 323, g 324, g 325, g 326, g 327, g 328, g 329, g 330, g 331, g 332, g 333, g 334, g 335, g 336, g 337, g 338, g 339, g 340, g 341, g 342, g 343, g 344, g 345, g 346, g 347, g 348], []⟩ := by
  obtain ⟨g, rfl, hg⟩ := frame_open a h.sz h.df
  obtain rfl := hg 0 _ h.e0
  obtain rfl := hg 1 _ h.e1
  obtain rfl := hg 2 _ h.e2
  obtain rfl := hg 3 _ h.e3
  obtain rfl := hg 18 _ h.e18
  obtain rfl := hg 19 _ h.e19
  obtain rfl := hg 20 _ h.e20
  obtain rfl := hg 21 _ h.e21
  obtain rfl := hg 22 _ h.e22
  obtain rfl := hg 23 _ h.e23
  obtain rfl := hg 25 _ h.e25
  obtain rfl := hg 27 _ h.e27
  obtain rfl := hg 29 _ h.e29
  obtain rfl := hg 30 _ h.e30
  obtain rfl := hg 31 _ h.e31
  obtain rfl := hg 32 _ h.e32
  obtain rfl := hg 33 _ h.e33
  obtain rfl := hg 238 _ h.e238
  exact ⟨g, rfl⟩
structure Fr7 (a : Act) (v0 v1 v2 v3 v18 v19 v20 v21 v22 v23 : Value) : Prop where
  sz : a.tmps.toList.length = 349
  df : a.defers = []
  e0 : a.tmps.toList[0]? = some v0
  e1 : a.tmps.toList[1]? = some v1
  e2 : a.tmps.toList[2]? = some v2
  e3 : a.tmps.toList[3]? = some v3
  e18 : a.tmps.toList[18]? = some v18
  e19 : a.tmps.toList[19]? = some v19
  e20 : a.tmps.toList[20]? = some v20
  e21 : a.tmps.toList[21]? = some v21
  e22 : a.tmps.toList[22]? = some v22
  e23 : a.tmps.toList[23]? = some v23
set_option maxRecDepth 100000 in
theorem Fr7.open' {a : Act} {v0 v1 v2 v3 v18 v19 v20 v21 v22 v23 : Value} (h : Fr7 a v0 v1 v2 v3 v18 v19 v20 v21 v22 v23) : ∃ g : Nat → Value, a = ⟨#[v0, v1, v2, v3, g 4, g 5, g 6, g 7, g 8, g 9, g 10, g 11, g 12, g 13, g 14, g 15, g 16, g 17, v18, v19, v20, v21, v22, v23, g 24, g 25, g 26, g 27, g 28, g 29, g 30, g 31, g 32, g 33, g 34, g 35, g 36, g 37, g 38, g 39, g 40, g 41, g 42, g 43, g 44, g 45, g 46, g 47, g 48, g 49, g 50, g 51, g 52, g 53, g 54, g 55, g 56, g 57, g 58, g 59, g 60, g 61, g 62, g 63, g 64, g 65, g 66, g 67, g 68, g 69, g 70, g 71, g 72, g 73, g 74, g 75, g 76, g 77, g 78, g 79, g 80, g 81, g 82, g 83, g 84, g 85, g 86, g 87, g 88, g 89, g 90, g 91, g 92, g 93, g 94, g 95, g 96, g 97, g 98, g 99, g 100, g 101, g 102, g 103, g 104, g 105, g 106, g 107, g 108, g 109, g 110, g 111, g 112, g 113, g 114, g 115, g 116, g 117, g 118, g 119, g 120, g 121, g 122, g 123, g 124, g 125, g 126, g 127, g 128, g 129, g 130, g 131, g 132, g 133, g 134, g 135, g 136, g 137, g 138, g 139, g 140, g 141, g 142, g 143, g 144, g 145, g 146, g 147, g 148, g 149, g 150, g 151, g 152, g 153, g 154, g 155, g 156, g 157, g 158, g 159, g 160, g 161, g 162, g 163, g 164, g 165, g 166, g 167, g 168, g 169, g 170, g 171, g 172, g 173, g 174, g 175, g 176, g 177, g 178, g 179, g 180, g 181, g 182, g 183, g 184, g 185, g 186, g 187, g 188, g 189, g 190, g 191, g 192, g 193, g 194, g 195, g 196, g 197, g 198, g 199, g 200, g 201, g 202, g 203, g 204, g 205, g 206, g 207, g 208, g 209, g 210, g 211, g 212, g 213, g 214, g 215, g 216, g 217, g 218, g 219, g 220, g 221, g 222, g 223, g 224, g 225, g 226, g 227, g 228, g 229, g 230, g 231, g 232, g 233, g 234, g 235, g 236, g 237, g 238, g 239, g 240, g 241, g 242, g 243, g 244, g 245, g 246, g 247, g 248, g 249, g 250, g 251, g 252, g 253, g 254, g 255, g 256, g 257, g 258, g 259, g 260, g 261, g 262, g 263, g 264, g 265, g 266, g 267, g 268, g 269, g 270, g 271, g 272, g 273, g 274, g 275, g 276, g 277, g 278, g 279, g 280, g 281, g 282, g 283, g 284, g 285, g 286, g 287, g 288, g 289, g 290, g 291, g 292, g 293, g 294, g 295, g 296, g 297, g 298, g 299, g 300, g 301, g 302, g 303, g 304, g 305, g 306, g 307, g 308, g 309, g 310, g 311, g 312, g 313, g 314, g 315, g 316, g 317, g 318, g 319, g 320, g 321, g 322, g 323, g 324, g 325, g 326, g 327, g 328, g 329, g 330, g 331, g 332, g 333, g 334, g 335, g 336, g 337, g 338, g 339, g 340, g 341, g 342, g 343, g 344, g 345, g 346, g 347, g 348], []⟩ := by
  obtain ⟨g, rfl, hg⟩ := frame_open a h.sz h.df
  obtain rfl := hg 0 _ h.e0
  obtain rfl := hg 1 _ h.e1
  obtain rfl := hg 2 _ h.e2
  obtain rfl := hg 3 _ h.e3
  obtain rfl := hg 18 _ h.e18
  obtain rfl := hg 19 _ h.e19
  obtain rfl := hg 20 _ h.e20
  obtain rfl := hg 21 _ h.e21
  obtain rfl := hg 22 _ h.e22
  obtain rfl := hg 23 _ h.e23
  exact ⟨g, rfl⟩
structure Fr8 (a : Act) (v0 v1 v2 v3 v18 v19 v20 v21 v22 v348 : Value) : Prop where
  sz : a.tmps.toList.length = 349
  df : a.defers = []
  e0 : a.tmps.toList[0]? = some v0
  e1 : a.tmps.toList[1]? = some v1
  e2 : a.tmps.toList[2]? = some v2
  e3 : a.tmps.toList[3]? = some v3
  e18 : a.tmps.toList[18]? = some v18
  e19 : a.tmps.toList[19]? = some v19
  e20 : a.tmps.toList[20]? = some v20
  e21 : a.tmps.toList[21]? = some v21
  e22 : a.tmps.toList[22]? = some v22
  e348 : a.tmps.toList[348]? = some v348
set_option maxRecDepth 100000 in
theorem Fr8.open' {a : Act} {v0 v1 v2 v3 v18 v19 v20 v21 v22 v348 : Value} (h : Fr8 a v0 v1 v2 v3 v18 v19 v20 v21 v22 v348) : ∃ g : Nat → Value, a = ⟨#[v0, v1, v2, v3, g 4, g 5, g 6, g 7, g 8, g 9, g 10, g 11, g 12, g 13, g 14, g 15, g 16, g 17, v18, v19, v20, v21, v22, g 23, g 24, g 25, g 26, g 27, g 28, g 29, g 30, g 31, g 32, g 33, g 34, g 35, g 36, g 37, g 38, g 39, g 40, g 41, g 42, g 43, g 44, g 45, g 46, g 47, g 48, g 49, g 50, g 51, g 52, g 53, g 54, g 55, g 56, g 57, g 58, g 59, g 60, g 61, g 62, g 63, g 64, g 65, g 66, g 67, g 68, g 69, g 70, g 71, g 72, g 73, g 74, g 75, g 76, g 77, g 78, g 79, g 80, g 81, g 82, g 83, g 84, g 85, g 86, g 87, g 88, g 89, g 90, g 91, g 92, g 93, g 94, g 95, g 96, g 97, g 98, g 99, g 100, g 101, g 102, g 103, g 104, g 105, g 106, g 107, g 108, g 109, g 110, g 111, g 112, g 113, g 114, g 115, g 116, g 117, g 118, g 119, g 120, g 121, g 122, g 123, g 124, g 125, g 126, g 127, g 128, g 129, g 130, g 131, g 132, g 133, g 134, g 135, g 136, g 137, g 138, g 139, g 140, g 141, g 142, g 143, g 144, g 145, g 146, g 147, g 148, g 149, g 150, g 151, g 152, g 153, g 154, g 155, g 156, g 157, g 158, g 159, g 160, g 161, g 162, g 163, g 164, g 165, g 166, g 167, g 168, g 169, g 170, g 171, g 172, g 173, g 174, g 175, g 176, g 177, g 178, g 179, g 180, g 181, g 182, g 183, g 184, g 185, g 186, g 187, g 188, g 189, g 190, g 191, g 192, g 193, g 194, g 195, g 196, g 197, g 198, g 199, g 200, g 201, g 202, g 203, g 204, g 205, g 206, g 207, g 208, g 209, g 210, g 211, g 212, g 213, g 214, g 215, g 216, g 217, g 218, g 219, g 220, g 221, g 222, g 223, g 224, g 225, g 226, g 227, g 228, g 229, g 230, g 231, g 232, g 233, g 234, g 235, g 236, g 237, g 238, g 239, g 240, g 241, g 242, g 243, g 244, g 245, g 246, g 247, g 248, g 249, g 250, g 251, g 252, g 253, g 254, g 255, g 256, g 257, g 258, g 259, g 260, g 261, g 262, g 263, g 264, g 265, g 266, g 267, g 268, g 269, g 270, g 271, g 272, g 273, g 274, g 275, g 276, g 277, g 278, g 279, g 280, g 281, g 282, g 283, g 284, g 285, g 286, g 287, g 288, g 289, g 290, g 291, g 292, g 293, g 294, g 295, g 296, g 297, g 298, g 299, g 300, g 301, g 302, g 303, g 304, g 305, g 306, g 307, g 308, g 309, g 310, g 311, g 312, g 313, g 314, g 315, g 316, g 317, g 318, g 319, g 320, g 321, g 322, g 323, g 324, g 325, g 326, g 327, g 328, g 329, g 330, g 331, g 332, g 333, g 334, g 335, g 336, g 337, g 338, g 339, g 340, g 341, g 342, g 343, g 344, g 345, g 346, g 347, v348], []⟩ := by
  obtain ⟨g, rfl, hg⟩ := frame_open a h.sz h.df
  obtain rfl := hg 0 _ h.e0
  obtain rfl := hg 1 _ h.e1
  obtain rfl := hg 2 _ h.e2
  obtain rfl := hg 3 _ h.e3
  obtain rfl := hg 18 _ h.e18
  obtain rfl := hg 19 _ h.e19
  obtain rfl := hg 20 _ h.e20
  obtain rfl := hg 21 _ h.e21
  obtain rfl := hg 22 _ h.e22
  obtain rfl := hg 348 _ h.e348
  exact ⟨g, rfl⟩
structure Fr9 (a : Act) (v0 v1 v2 v3 v18 v19 v20 v21 v22 v37 v38 v39 : Value) : Prop where
  sz : a.tmps.toList.length = 349
  df : a.defers = []
  e0 : a.tmps.toList[0]? = some v0
  e1 : a.tmps.toList[1]? = some v1
  e2 : a.tmps.toList[2]? = some v2
  e3 : a.tmps.toList[3]? = some v3
  e18 : a.tmps.toList[18]? = some v18
  e19 : a.tmps.toList[19]? = some v19
  e20 : a.tmps.toList[20]? = some v20
  e21 : a.tmps.toList[21]? = some v21
  e22 : a.tmps.toList[22]? = some v22
  e37 : a.tmps.toList[37]? = some v37
  e38 : a.tmps.toList[38]? = some v38
  e39 : a.tmps.toList[39]? = some v39
set_option maxRecDepth 100000 in
theorem Fr9.open' {a : Act} {v0 v1 v2 v3 v18 v19 v20 v21 v22 v37 v38 v39 : Value} (h : Fr9 a v0 v1 v2 v3 v18 v19 v20 v21 v22 v37 v38 v39) : ∃ g : Nat → Value, a = ⟨#[v0, v1, v2, v3, g 4, g 5, g 6, g 7, g 8, g 9, g 10, g 11, g 12, g 13, g 14, g 15, g 16, g 17, v18, v19, v20, v21, v22, g 23, g 24, g 25, g 26, g 27, g 28, g 29, g 30, g 31, g 32, g 33, g 34, g 35, g 36, v37, v38, v39, g 40, g 41, g 42, g 43, g 44, g 45, g 46, g 47, g 48, g 49, g 50, g 51, g 52, g 53, g 54, g 55, g 56, g 57, g 58, g 59, g 60, g 61, g 62, g 63, g 64, g 65, g 66, g 67, g 68, g 69, g 70, g 71, g 72, g 73, g 74, g 75, g 76, g 77, g 78, g 79, g 80, g 81, g 82, g 83, g 84, g 85, g 86, g 87, g 88, g 89, g 90, g 91, g 92, g 93, g 94, g 95, g 96, g 97, g 98, g 99, g 100, g 101, g 102, g 103, g 104, g 105, g 106, g 107, g 108, g 109, g 110, g 111, g 112, g 113, g 114, g 115, g 116, g 117, g 118, g 119, g 120, g 121, g 122, g 123, g 124, g 125, g 126, g 127, g 128, g 129, g 130, g 131, g 132, g 133, g 134, g 135, g 136, g 137, g 138, g 139, g 140, g 141, g 142, g 143, g 144, g 145, g 146, g 147, g 148, g 149, g 150, g 151, g 152, g 153, g 154, g 155, g 156, g 157, g 158, g 159, g 160, g 161, g 162, g 163, g 164, g 165, g 166, g 167, g 168, g 169, g 170, g 171, g 172, g 173, g 174, g 175, g 176, g 177, g 178, g 179, g 180, g 181, g 182, g 183, g 184, g 185, g 186, g 187, g 188, g 189, g 190, g 191, g 192, g 193, g 194, g 195, g 196, g 197, g 198, g 199, g 200, g 201, g 202, g 203, g 204, g 205, g 206, g 207, g 208, g 209, g 210, g 211, g 212, g 213, g 214, g 215, g 216, g 217, g 218, g 219, g 220, g 221, g 222, g 223, g 224, g 225, g 226, g 227, g 228, g 229, g 230, g 231, g 232, g 233, g 234, g 235, g 236, g 237, g 238, g 239, g 240, g 241, g 242, g 243, g 244, g 245, g 246, g 247, g 248, g 249, g 250, g 251, g 252, g 253, g 254, g 255, g 256, g 257, g 258, g 259, g 260, g 261, g 262, g 263, g 264, g 265, g 266, g 267, g 268, g 269, g 270, g 271, g 272, g 273, g 274, g 275, g 276, g 277, g 278, g 279, g 280, g 281, g 282, g 283, g 284, g 285, g 286, g 287, g 288, g 289, g 290, g 291, g 292, g 293, g 294, g 295, g 296, g 297, g 298, g 299, g 300, g 301, g 302, g 303, g 304, g 305, g 306, g 307, g 308, g 309, g 310, g 311, g 312, g 313, g 314, g 315, g 316, g 317, g 318, g 319, g 320, g 321, g 322, g 323, g 324, g 325, g 326, g 327, g 328, g 329, g 330, g 331, g 332, g 333, g 334, g 335, g 336, g 337, g 338, g 339, g 340, g 341, g 342, g 343, g 344, g 345, g 346, g 347, g 348], []⟩ := by
  obtain ⟨g, rfl, hg⟩ := frame_open a h.sz h.df
  obtain rfl := hg 0 _ h.e0
  obtain rfl := hg 1 _ h.e1
  obtain rfl := hg 2 _ h.e2
  obtain rfl := hg 3 _ h.e3
  obtain rfl := hg 18 _ h.e18
  obtain rfl := hg 19 _ h.e19
  obtain rfl := hg 20 _ h.e20
  obtain rfl := hg 21 _ h.e21
  obtain rfl := hg 22 _ h.e22
  obtain rfl := hg 37 _ h.e37
  obtain rfl := hg 38 _ h.e38
  obtain rfl := hg 39 _ h.e39
  exact ⟨g, rfl⟩
structure Fr10 (a : Act) (v0 v1 v2 v3 v18 v19 v20 v21 v22 v34 : Value) : Prop where
  sz : a.tmps.toList.length = 349
  df : a.defers = []
  e0 : a.tmps.toList[0]? = some v0
  e1 : a.tmps.toList[1]? = some v1
  e2 : a.tmps.toList[2]? = some v2
  e3 : a.tmps.toList[3]? = some v3
  e18 : a.tmps.toList[18]? = some v18
  e19 : a.tmps.toList[19]? = some v19
  e20 : a.tmps.toList[20]? = some v20
  e21 : a.tmps.toList[21]? = some v21
  e22 : a.tmps.toList[22]? = some v22
  e34 : a.tmps.toList[34]? = some v34
set_option maxRecDepth 100000 in
theorem Fr10.open' {a : Act} {v0 v1 v2 v3 v18 v19 v20 v21 v22 v34 : Value} (h : Fr10 a v0 v1 v2 v3 v18 v19 v20 v21 v22 v34) : ∃ g : Nat → Value, a = ⟨#[v0, v1, v2, v3, g 4, g 5, g 6, g 7, g 8, g 9, g 10, g 11, g 12, g 13, g 14, g 15, g 16, g 17, v18, v19, v20, v21, v22, g 23, g 24, g 25, g 26, g 27, g 28, g 29, g 30, g 31, g 32, g 33, v34, g 35, g 36, g 37, g 38, g 39, g 40, g 41, g 42, g 43, g 44, g 45, g 46, g 47, g 48, g 49, g 50, g 51, g 52, g 53, g 54, g 55, g 56, g 57, g 58, g 59, g 60, g 61, g 62, g 63, g 64, g 65, g 66, g 67, g 68, g 69, g 70, g 71, g 72, g 73, g 74, g 75, g 76, g 77, g 78, g 79, g 80, g 81, g 82, g 83, g 84, g 85, g 86, g 87, g 88, g 89, g 90, g 91, g 92, g 93, g 94, g 95, g 96, g 97, g 98, g 99, g 100, g 101, g 102, g 103, g 104, g 105, g 106, g 107, g 108, g 109, g 110, g 111, g 112, g 113, g 114, g 115, g 116, g 117, g 118, g 119, g 120, g 121, g 122, g 123, g 124, g 125, g 126, g 127, g 128, g 129, g 130, g 131, g 132, g 133, g 134, g 135, g 136, g 137, g 138, g 139, g 140, g 141, g 142, g 143, g 144, g 145, g 146, g 147, g 148, g 149, g 150, g 151, g 152, g 153, g 154, g 155, g 156, g 157, g 158, g 159, g 160, g 161, g 162, g 163, g 164, g 165, g 166, g 167, g 168, g 169, g 170, g 171, g 172, g 173, g 174, g 175, g 176, g 177, g 178, g 179, g 180, g 181, g 182, g 183, g 184, g 185, g 186, g 187, g 188, g 189, g 190, g 191, g 192, g 193, g 194, g 195, g 196, g 197, g 198, g 199, g 200, g 201, g 202, g 203, g 204, g 205, g 206, g 207, g 208, g 209, g 210, g 211, g 212, g 213, g 214, g 215, g 216, g 217, g 218, g 219, g 220, g 221, g 222, g 223, g 224, g 225, g 226, g 227, g 228, g 229, g 230, g 231, g 232, g 233, g 234, g 235, g 236, g 237, g 238, g 239, g 240, g 241, g 242, g 243, g 244, g 245, g 246, g 247, g 248, g 249, g 250, g 251, g 252, g 253, g 254, g 255, g 256, g 257, g 258, g 259, g 260, g 261, g 262, g 263, g 264, g 265, g 266, g 267, g 268, g 269, g 270, g 271, g 272, g 273, g 274, g 275, g 276, g 277, g 278, g 279, g 280, g 281, g 282, g 283, g 284, g 285, g 286, g 287, g 288, g 289, g 290, g 291, g 292, g 293, g 294, g 295, g 296, g 297, g 298, g 299, g 300, g 301, g 302, g 303, g 304, g 305, g 306, g 307, g 308, g 309, g 310, g 311, g 312, g 313, g 314, g 315, g 316, g 317, g 318, g 319, g 320, g 321, g 322, g 323, g 324, g 325, g 326, g 327, g 328, g 329, g 330, g 331, g 332, g 333, g 334, g 335, g 336, g 337, g 338, g 339, g 340, g 341, g 342, g 343, g 344, g 345, g 346, g 347, g 348], []⟩ := by
  obtain ⟨g, rfl, hg⟩ := frame_open a h.sz h.df
  obtain rfl := hg 0 _ h.e0
  obtain rfl := hg 1 _ h.e1
  obtain rfl := hg 2 _ h.e2
  obtain rfl := hg 3 _ h.e3
  obtain rfl := hg 18 _ h.e18
  obtain rfl := hg 19 _ h.e19
  obtain rfl := hg 20 _ h.e20
  obtain rfl := hg 21 _ h.e21
  obtain rfl := hg 22 _ h.e22
  obtain rfl := hg 34 _ h.e34
  exact ⟨g, rfl⟩
structure Fr11 (a : Act) (v0 v1 v2 v3 v18 v19 v20 v21 v22 v34 v35 v36 v37 v295 : Value) : Prop where
  sz : a.tmps.toList.length = 349
  df : a.defers = []
  e0 : a.tmps.toList[0]? = some v0
  e1 : a.tmps.toList[1]? = some v1
  e2 : a.tmps.toList[2]? = some v2
  e3 : a.tmps.toList[3]? = some v3
  e18 : a.tmps.toList[18]? = some v18
  e19 : a.tmps.toList[19]? = some v19
  e20 : a.tmps.toList[20]? = some v20
  e21 : a.tmps.toList[21]? = some v21
  e22 : a.tmps.toList[22]? = some v22
  e34 : a.tmps.toList[34]? = some v34
  e35 : a.tmps.toList[35]? = some v35
  e36 : a.tmps.toList[36]? = some v36
  e37 : a.tmps.toList[37]? = some v37
  e295 : a.tmps.toList[295]? = some v295
set_option maxRecDepth 100000 in
theorem Fr11.open' {a : Act} {v0 v1 v2 v3 v18 v19 v20 v21 v22 v34 v35 v36 v37 v295 : Value} (h : Fr11 a v0 v1 v2 v3 v18 v19 v20 v21 v22 v34 v35 v36 v37 v295) : ∃ g : Nat → Value, a = ⟨#[v0, v1, v2, v3, g 4, g 5, g 6, g 7, g 8, g 9, g 10, g 11, g 12, g 13, g 14, g 15, g 16, g 17, v18, v19, v20, v21, v22, g 23, g 24, g 25, g 26, g 27, g 28, g 29, g 30, g 31, g 32, g 33, v34, v35, v36, v37, g 38, g 39, g 40, g 41, g 42, g 43, g 44, g 45, g 46, g 47, g 48, g 49, g 50, g 51, g 52, g 53, g 54, g 55, g 56, g 57, g 58, g 59, g 60, g 61, g 62, g 63, g 64, g 65, g 66, g 67, g 68, g 69, g 70, g 71, g 72, g 73, g 74, g 75, g 76, g 77, g 78, g 79, g 80, g 81, g 82, g 83, g 84, g 85, g 86, g 87, g 88, g 89, g 90, g 91, g 92, g 93, g 94, g 95, g 96, g 97, g 98, g 99, g 100, g 101, g 102, g 103, g 104, g 105, g 106, g 107, g 108, g 109, g 110, g 111, g 112, g 113, g 114, g 115, g 116, g 117, g 118, g 119, g 120, g 121, g 122, g 123, g 124, g 125, g 126, g 127, g 128, g 129, g 130, g 131, g 132, g 133, g 134, g 135, g 136, g 137, g 138, g 139, g 140, g 141, g 142, g 143, g 144, g 145, g 146, g 147, g 148, g 149, g 150, g 151, g 152, g 153, g 154, g 155, g 156, g 157, g 158, g 159, g 160, g 161, g 162, g 163, g 164, g 165, g 166, g 167, g 168, g 169, g 170, g 171, g 172, g 173, g 174, g 175, g 176, g 177, g 178, g 179, g 180, g 181, g 182, g 183, g 184, g 185, g 186, g 187, g 188, g 189, g 190, g 191, g 192, g 193, g 194, g 195, g 196, g 197, g 198, g 199, g 200, g 201, g 202, g 203, g 204, g 205, g 206, g 207, g 208, g 209, g 210, g 211, g 212, g 213, g 214, g 215, g 216, g 217, g 218, g 219, g 220, g 221, g 222, g 223, g 224, g 225, g 226, g 227, g 228, g 229, g 230, g 231, g 232, g 233, g 234, g 235, g 236, g 237, g 238, g 239, g 240, g 241, g 242, g 243, g 244, g 245, g 246, g 247, g 248, g 249, g 250, g 251, g 252, g 253, g 254, g 255, g 256, g 257, g 258, g 259, g 260, g 261, g 262, g 263, g 264, g 265, g 266, g 267, g 268, g 269, g 270, g 271, g 272, g 273, g 274, g 275, g 276, g 277, g 278, g 279, g 280, g 281, g 282, g 283, g 284, g 285, g 286, g 287, g 288, g 289, g 290, g 291, g 292, g 293, g 294, v295, g 296, g 297, g 298, g 299, g 300, g 301, g 302, g 303, g 304, g 305, g 306, g 307, g 308, g 309, g 310, g 311, g 312, g 313, g 314, g 315, g 316, g 317, g 318, g 319, g 320, g 321, g 322, g 323, g 324, g 325, g 326, g 327, g 328, g 329, g 330, g 331, g 332, g 333, g 334, g 335, g 336, g 337, g 338, g 339, g 340, g 341, g 342, g 343, g 344, g 345, g 346, g 347, g 348], []⟩ := by
  obtain ⟨g, rfl, hg⟩ := frame_open a h.sz h.df
  obtain rfl := hg 0 _ h.e0
  obtain rfl := hg 1 _ h.e1
  obtain rfl := hg 2 _ h.e2
  obtain rfl := hg 3 _ h.e3
  obtain rfl := hg 18 _ h.e18
  obtain rfl := hg 19 _ h.e19
  obtain rfl := hg 20 _ h.e20
  obtain rfl := hg 21 _ h.e21
  obtain rfl := hg 22 _ h.e22
  obtain rfl := hg 34 _ h.e34
  obtain rfl := hg 35 _ h.e35
  obtain rfl := hg 36 _ h.e36
  obtain rfl := hg 37 _ h.e37
  obtain rfl := hg 295 _ h.e295
  exact ⟨g, rfl⟩
structure Fr12 (a : Act) (v0 v1 v2 v3 v18 v19 v20 v21 v22 v37 : Value) : Prop where
  sz : a.tmps.toList.length = 349
  df : a.defers = []
  e0 : a.tmps.toList[0]? = some v0
  e1 : a.tmps.toList[1]? = some v1
  e2 : a.tmps.toList[2]? = some v2
  e3 : a.tmps.toList[3]? = some v3
  e18 : a.tmps.toList[18]? = some v18
  e19 : a.tmps.toList[19]? = some v19
  e20 : a.tmps.toList[20]? = some v20
  e21 : a.tmps.toList[21]? = some v21
  e22 : a.tmps.toList[22]? = some v22
  e37 : a.tmps.toList[37]? = some v37
set_option maxRecDepth 100000 in
theorem Fr12.open' {a : Act} {v0 v1 v2 v3 v18 v19 v20 v21 v22 v37 : Value} (h : Fr12 a v0 v1 v2 v3 v18 v19 v20 v21 v22 v37) : ∃ g : Nat → Value, a = ⟨#[v0, v1, v2, v3, g 4, g 5, g 6, g 7, g 8, g 9, g 10, g 11, g 12, g 13, g 14, g 15, g 16, g 17, v18, v19, v20, v21, v22, g 23, g 24, g 25, g 26, g 27, g 28, g 29, g 30, g 31, g 32, g 33, g 34, g 35, g 36, v37, g 38, g 39, g 40, g 41, g 42, g 43, g 44, g 45, g 46, g 47, g 48, g 49, g 50, g 51, g 52, g 53, g 54, g 55, g 56, g 57, g 58, g 59, g 60, g 61, g 62, g 63, g 64, g 65, g 66, g 67, g 68, g 69, g 70, g 71, g 72, g 73, g 74, g 75, g 76, g 77, g 78, g 79, g 80, g 81, g 82, g 83, g 84, g 85, g 86, g 87, g 88, g 89, g 90, g 91, g 92, g 93, g 94, g 95, g 96, g 97, g 98, g 99, g 100, g 101, g 102, g 103, g 104, g 105, g 106, g 107, g 108, g 109, g 110, g 111, g 112, g 113, g 114, g 115, g 116, g 117, g 118, g 119, g 120, g 121, g 122, g 123, g 124, g 125, g 126, g 127, g 128, g 129, g 130, g 131, g 132, g 133, g 134, g 135, g 136, g 137, g 138, g 139, g 140, g 141, g 142, g 143, g 144, g 145, g 146, g 147, g 148, g 149, g 150, g 151, g 152, g 153, g 154, g 155, g 156, g 157, g 158, g 159, g 160, g 161, g 162, g 163, g 164, g 165, g 166, g 167, g 168, g 169, g 170, g 171, g 172, g 173, g 174, g 175, g 176, g 177, g 178, g 179, g 180, g 181, g 182, g 183, g 184, g 185, g 186, g 187, g 188, g 189, g 190, g 191, g 192, g 193, g 194, g 195, g 196, g 197, g 198, g 199, g 200, g 201, g 202, g 203, g 204, g 205, g 206, g 207, g 208, g 209, g 210, g 211, g 212, g 213, g 214, g 215, g 216, g 217, g 218, g 219, g 220, g 221, g 222, g 223, g 224, g 225, g 226, g 227, g 228, g 229, g 230, g 231, g 232, g 233, g 234, g 235, g 236, g 237, g 238, g 239, g 240, g 241, g 242, g 243, g 244, g 245, g 246, g 247, g 248, g 249, g 250, g 251, g 252, g 253, g 254, g 255, g 256, g 257, g 258, g 259, g 260, g 261, g 262, g 263, g 264, g 265, g 266, g 267, g 268, g 269, g 270, g 271, g 272, g 273, g 274, g 275, g 276, g 277, g 278, g 279, g 280, g 281, g 282, g 283, g 284, g 285, g 286, g 287, g 288, g 289, g 290, g 291, g 292, g 293, g 294, g 295, g 296, g 297, g 298, g 299, g 300, g 301, g 302, g 303, g 304, g 305, g 306, g 307, g 308, g 309, g 310, g 311, g 312, g 313, g 314, g 315, g 316, g 317, g 318, g 319, g 320, g 321, g 322, g 323, g 324, g 325, g 326, g 327, g 328, g 329, g 330, g 331, g 332, g 333, g 334, g 335, g 336, g 337, g 338, g 339, g 340, g 341, g 342, g 343, g 344, g 345, g 346, g 347, g 348], []⟩ := by
  obtain ⟨g, rfl, hg⟩ := frame_open a h.sz h.df
  obtain rfl := hg 0 _ h.e0
  obtain rfl := hg 1 _ h.e1
  obtain rfl := hg 2 _ h.e2
  obtain rfl := hg 3 _ h.e3
  obtain rfl := hg 18 _ h.e18
  obtain rfl := hg 19 _ h.e19
  obtain rfl := hg 20 _ h.e20
  obtain rfl := hg 21 _ h.e21
  obtain rfl := hg 22 _ h.e22
  obtain rfl := hg 37 _ h.e37
  exact ⟨g, rfl⟩
structure Fr13 (a : Act) (v0 v1 v2 v3 v18 v19 v20 v21 v22 v23 v139 : Value) : Prop where
  sz : a.tmps.toList.length = 349
  df : a.defers = []
  e0 : a.tmps.toList[0]? = some v0
  e1 : a.tmps.toList[1]? = some v1
  e2 : a.tmps.toList[2]? = some v2
  e3 : a.tmps.toList[3]? = some v3
  e18 : a.tmps.toList[18]? = some v18
  e19 : a.tmps.toList[19]? = some v19
  e20 : a.tmps.toList[20]? = some v20
  e21 : a.tmps.toList[21]? = some v21
  e22 : a.tmps.toList[22]? = some v22
  e23 : a.tmps.toList[23]? = some v23
  e139 : a.tmps.toList[139]? = some v139
set_option maxRecDepth 100000 in
theorem Fr13.open' {a : Act} {v0 v1 v2 v3 v18 v19 v20 v21 v22 v23 v139 : Value} (h : Fr13 a v0 v1 v2 v3 v18 v19 v20 v21 v22 v23 v139) : ∃ g : Nat → Value, a = ⟨#[v0, v1, v2, v3, g 4, g 5, g 6, g 7, g 8, g 9, g 10, g 11, g 12, g 13, g 14, g 15, g 16, g 17, v18, v19, v20, v21, v22, v23, g 24, g 25, g 26, g 27, g 28, g 29, g 30, g 31, g 32, g 33, g 34, g 35, g 36, g 37, g 38, g 39, g 40, g 41, g 42, g 43, g 44, g 45, g 46, g 47, g 48, g 49, g 50, g 51, g 52, g 53, g 54, g 55, g 56, g 57, g 58, g 59, g 60, g 61, g 62, g 63, g 64, g 65, g 66, g 67, g 68, g 69, g 70, g 71, g 72, g 73, g 74, g 75, g 76, g 77, g 78, g 79, g 80, g 81, g 82, g 83, g 84, g 85, g 86, g 87, g 88, g 89, g 90, g 91, g 92, g 93, g 94, g 95, g 96, g 97, g 98, g 99, g 100, g 101, g 102, g 103, g 104, g 105, g 106, g 107, g 108, g 109, g 110, g 111, g 112, g 113, g 114, g 115, g 116, g 117, g 118, g 119, g 120, g 121, g 122, g 123, g 124, g 125, g 126, g 127, g 128, g 129, g 130, g 131, g 132, g 133, g 134, g 135, g 136, g 137, g 138, v139, g 140, g 141, g 142, g 143, g 144, g 145, g 146, g 147, g 148, g 149, g 150, g 151, g 152, g 153, g 154, g 155, g 156, g 157, g 158, g 159, g 160, g 161, g 162, g 163, g 164, g 165, g 166, g 167, g 168, g 169, g 170, g 171, g 172, g 173, g 174, g 175, g 176, g 177, g 178, g 179, g 180, g 181, g 182, g 183, g 184, g 185, g 186, g 187, g 188, g 189, g 190, g 191, g 192, g 193, g 194, g 195, g 196, g 197, g 198, g 199, g 200, g 201, g 202, g 203, g 204, g 205, g 206, g 207, g 208, g 209, g 210, g 211, g 212, g 213, g 214, g 215, g 216, g 217, g 218, g 219, g 220, g 221, g 222, g 223, g 224, g 225, g 226, g 227, g 228, g 229, g 230, g 231, g 232, g 233, g 234, g 235, g 236, g 237, g 238, g 239, g 240, g 241, g 242, g 243, g 244, g 245, g 246, g 247, g 248, g 249, g 250, g 251, g 252, g 253, g 254, g 255, g 256, g 257, g 258, g 259, g 260, g 261, g 262, g 263, g 264, g 265, g 266, g 267, g 268, g 269, g 270, g 271, g 272, g 273, g 274, g 275, g 276, g 277, g 278, g 279, g 280, g 281, g 282, g 283, g 284, g 285, g 286, g 287, g 288, g 289, g 290, g 291, g 292, g 293, g 294, g 295, g 296, g 297, g 298, g 299, g 300, g 301, g 302, g 303, g 304, g 305, g 306, g 307, g 308, g 309, g 310, g 311, g 312, g 313, g 314, g 315, g 316, g 317, g 318, g 319, g 320, g 321, g 322, g 323, g 324, g 325, g 326, g 327, g 328, g 329, g 330, g 331, g 332, g 333, g 334, g 335, g 336, g 337, g 338, g 339, g 340, g 341, g 342, g 343, g 344, g 345, g 346, g 347, g 348], []⟩ := by
  obtain ⟨g, rfl, hg⟩ := frame_open a h.sz h.df
  obtain rfl := hg 0 _ h.e0
  obtain rfl := hg 1 _ h.e1
  obtain rfl := hg 2 _ h.e2
  obtain rfl := hg 3 _ h.e3
  obtain rfl := hg 18 _ h.e18
  obtain rfl := hg 19 _ h.e19
  obtain rfl := hg 20 _ h.e20
  obtain rfl := hg 21 _ h.e21
  obtain rfl := hg 22 _ h.e22
  obtain rfl := hg 23 _ h.e23
  obtain rfl := hg 139 _ h.e139
  exact ⟨g, rfl⟩
structure Fr14 (a : Act) (v0 v1 v2 v3 v18 v19 v20 v21 v22 : Value) : Prop where
  sz : a.tmps.toList.length = 349
  df : a.defers = []
  e0 : a.tmps.toList[0]? = some v0
  e1 : a.tmps.toList[1]? = some v1
  e2 : a.tmps.toList[2]? = some v2
  e3 : a.tmps.toList[3]? = some v3
  e18 : a.tmps.toList[18]? = some v18
  e19 : a.tmps.toList[19]? = some v19
  e20 : a.tmps.toList[20]? = some v20
  e21 : a.tmps.toList[21]? = some v21
  e22 : a.tmps.toList[22]? = some v22
set_option maxRecDepth 100000 in
theorem Fr14.open' {a : Act} {v0 v1 v2 v3 v18 v19 v20 v21 v22 : Value} (h : Fr14 a v0 v1 v2 v3 v18 v19 v20 v21 v22) : ∃ g : Nat → Value, a = ⟨#[v0, v1, v2, v3, g 4, g 5, g 6, g 7, g 8, g 9, g 10, g 11, g 12, g 13, g 14, g 15, g 16, g 17, v18, v19, v20, v21, v22, g 23, g 24, g 25, g 26, g 27, g 28, g 29, g 30, g 31, g 32, g 33, g 34, g 35, g 36, g 37, g 38, g 39, g 40, g 41, g 42, g 43, g 44, g 45, g 46, g 47, g 48, g 49, g 50, g 51, g 52, g 53, g 54, g 55, g 56, g 57, g 58, g 59, g 60, g 61, g 62, g 63, g 64, g 65, g 66, g 67, g 68, g 69, g 70, g 71, g 72, g 73, g 74, g 75, g 76, g 77, g 78, g 79, g 80, g 81, g 82, g 83, g 84, g 85, g 86, g 87, g 88, g 89, g 90, g 91, g 92, g 93, g 94, g 95, g 96, g 97, g 98, g 99, g 100, g 101, g 102, g 103, g 104, g 105, g 106, g 107, g 108, g 109, g 110, g 111, g 112, g 113, g 114, g 115, g 116, g 117, g 118, g 119, g 120, g 121, g 122, g 123, g 124, g 125, g 126, g 127, g 128, g 129, g 130, g 131, g 132, g 133, g 134, g 135, g 136, g 137, g 138, g 139, g 140, g 141, g 142, g 143, g 144, g 145, g 146, g 147, g 148, g 149, g 150, g 151, g 152, g 153, g 154, g 155, g 156, g 157, g 158, g 159, g 160, g 161, g 162, g 163, g 164, g 165, g 166, g 167, g 168, g 169, g 170, g 171, g 172, g 173, g 174, g 175, g 176, g 177, g 178, g 179, g 180, g 181, g 182, g 183, g 184, g 185, g 186, g 187, g 188, g 189, g 190, g 191, g 192, g 193, g 194, g 195, g 196, g 197, g 198, g 199, g 200, g 201, g 202, g 203, g 204, g 205, g 206, g 207, g 208, g 209, g 210, g 211, g 212, g 213, g 214, g 215, g 216, g 217, g 218, g 219, g 220, g 221, g 222, g 223, g 224, g 225, g 226, g 227, g 228, g 229, g 230, g 231, g 232, g 233, g 234, g 235, g 236, g 237, g 238, g 239, g 240, g 241, g 242, g 243, g 244, g 245, g 246, g 247, g 248, g 249, g 250, g 251, g 252, g 253, g 254, g 255, g 256, g 257, g 258, g 259, g 260, g 261, g 262, g 263, g 264, g 265, g 266, g 267, g 268, g 269, g 270, g 271, g 272, g 273, g 274, g 275, g 276, g 277, g 278, g 279, g 280, g 281, g 282, g 283, g 284, g 285, g 286, g 287, g 288, g 289, g 290, g 291, g 292, g 293, g 294, g 295, g 296, g 297, g 298, g 299, g 300, g 301, g 302, g 303, g 304, g 305, g 306, g 307, g 308, g 309, g 310, g 311, g 312, g 313, g 314, g 315, g 316, g 317, g 318, g 319, g 320, g 321, g 322, g 323, g 324, g 325, g 326, g 327, g 328, g 329, g 330, g 331, g 332, g 333, g 334, g 335, g 336, g 337, g 338, g 339, g 340, g 341, g 342, g 343, g 344, g 345, g 346, g 347, g 348], []⟩ := by
  obtain ⟨g, rfl, hg⟩ := frame_open a h.sz h.df
  obtain rfl := hg 0 _ h.e0
  obtain rfl := hg 1 _ h.e1
  obtain rfl := hg 2 _ h.e2
  obtain rfl := hg 3 _ h.e3
  obtain rfl := hg 18 _ h.e18
  obtain rfl := hg 19 _ h.e19
  obtain rfl := hg 20 _ h.e20
  obtain rfl := hg 21 _ h.e21
  obtain rfl := hg 22 _ h.e22
  exact ⟨g, rfl⟩
def KL (w wr : World) (lb : Nat) (vd vm : Value) (us : List Value) (s : Lg) : Prop := Kq w wr lb vd vm (.slice none 0 0) us s.ns (s.ns.length + 1) [] s
theorem KL.bel {w wr : World} {lb : Nat} {vd vm : Value} {us : List Value} {s : Lg} (h : KL w wr lb vd vm us s) : Below w.heap.size w wr := Kq.bel h
theorem KL.inv {w wr : World} {lb : Nat} {vd vm : Value} {us : List Value} {s : Lg} (h : KL w wr lb vd vm us s) : LInv s := Kq.inv h

set_option maxRecDepth 100000 in
set_option maxHeartbeats 8000000 in
theorem keeps_go (a0 a1 a2 a3 : Option Addr) (l0 l1 l2 l3 c0 c1 c2 c3 : Nat) (f0 f1 f2 f3 : Nat → Int) (w : World) (hH : Handle w) (h0 : Ia w a0 l0 f0) (h1 : Ia w a1 l1 f1) (h2 : Ia w a2 l2 f2) (h3 : Ia w a3 l3 f3) :
    Calls Tryd.prog 4 #[.slice a0 l0 c0, .slice a1 l1 c1, .slice a2 l2 c2, .slice a3 l3 c3] w fun e w' => e = .returned (.bool true) ∧ Below w.heap.size w w' := by
  have HH : Hid (Handle w) := hH
  have H0 : Hid (Ia w a0 l0 f0) := h0
  have H1 : Hid (Ia w a1 l1 f1) := h1
  have H2 : Hid (Ia w a2 l2 f2) := h2
  have H3 : Hid (Ia w a3 l3 f3) := h3
  clear hH h0 h1 h2 h3
  go_enter Tryd.func4, Tryd.ntmps4
  go_wp2_with fail
  refine (q_new (Below.refl _ _)).mono ?_
  rintro e w1 ⟨lb, rfl, hq⟩
  have hc := q_came hq 7 (by first | (simp [Lg.new]; done) | simp)
  rw [o1.1, o1.2.1, o1.2.2, errV_0] at hc
  go_wp2_with fail
  refine hc.mono ?_
  clear hc hq
  rintro e w2 ⟨rfl, hq⟩
  have hc := q_sync hq
  rw [o2.1, o2.2, errV_0] at hc
  go_wp2_with fail
  refine hc.mono ?_
  clear hc hq
  rintro e w2 ⟨rfl, hq⟩
  have hc := q_came hq 7 (by first | (simp [Lg.new]; done) | simp)
  rw [o3.1, o3.2.1, o3.2.2, errV_0] at hc
  go_wp2_with fail
  refine hc.mono ?_
  clear hc hq
  rintro e w2 ⟨rfl, hq⟩
  have hc := q_came hq 9 (by first | (simp [Lg.new]; done) | simp)
  rw [o4.1, o4.2.1, o4.2.2, errV_0] at hc
  go_wp2_with fail
  refine hc.mono ?_
  clear hc hq
  rintro e w2 ⟨rfl, hq⟩
  have hc := q_crash hq 0 (by decide) (by decide)
  rw [o5] at hc
  go_wp2_with fail
  refine hc.mono ?_
  clear hc hq
  rintro e w2 ⟨⟨v, rfl⟩, hq⟩
  have hc := q_all hq
  go_wp2_with fail
  refine hc.mono ?_
  clear hc hq
  rintro e w2 ⟨v, rfl, ho, hq⟩
  have ho1 : w2.ownsRow _ 37 2 v 1 (flat [(7, 7)]) := ho
  have hy : Calls Tryd.prog 13 #[.pointer (some ⟨lb, 0, none⟩)] w2 fun e w' => e = .returned (.int .i64 4) ∧ w' = w2 := q_bytes hq
  have hs : Calls Tryd.prog 12 #[.pointer (some ⟨lb, 0, none⟩)] w2 fun e w' => e = .returned (.int .i64 4) ∧ w' = w2 := q_safe hq
  clear ho
  have HB : Hid (Below w.heap.size w w2) := hq.bel
  clear hq
  obtain ⟨gf, cf, rfl⟩ : ∃ gf cf, v = .slice (some ⟨gf, 0, none⟩) 1 cf := by
    rcases ho1.2 with ⟨_, e0⟩ | ⟨gf, cf, cur, e, _⟩
    · omega
    · exact ⟨gf, cf, e⟩
  have y0 : w2.cell? ⟨gf, 0, none⟩ = some (.int .i64 7) := ho1.cellAt 0 (by omega)
  have y1 : w2.cell? ⟨gf, 1, none⟩ = some (.int .i64 7) := ho1.cellAt 1 (by omega)
  clear ho1
  go_wp2_with (first | (go_at_call 13; refine hy.mono ?_; rintro e w3 ⟨rfl, hw3⟩; obtain rfl := hw3.symm) | (go_at_call 12; refine hs.mono ?_; rintro e w4 ⟨rfl, hw4⟩; obtain rfl := hw4.symm))
  refine (q_new HB.out).mono ?_
  clear hy hs y0 y1
  rintro e w5 ⟨lb, rfl, hq⟩
  go_wp2_with fail
  have hK0 := k_start hq
  clear hq HB
  generalize w5.heap.size = d5 at hK0 ⊢
  generalize (w5.alloc (.cells #[.slice none 0 0] 34)).alloc (.cells #[.int .i64 0] 3) = W0 at hK0 ⊢
  have HK0 : Hid (KL w W0 lb (.slice (some ⟨d5, 0, none⟩) 1 1) (.slice (some ⟨d5 + 1, 0, none⟩) 1 1) [.slice none 0 0] Lg.new) := hK0
  clear hK0
  refine wp_loop_ghost_k (fun gk a' wr => ∃ (r ta : Nat) (s : Lg) (us : List Value) (v19 v20 v21 v22 : Value), Hid (gk + r = 5) ∧ Fr14 a' (.slice a0 l0 c0) (.slice a1 l1 c1) (.slice a2 l2 c2) (.slice a3 l3 c3) (.pointer (some ⟨lb, 0, none⟩)) v19 v20 v21 v22 ∧ v21 = .int .i64 (ta : Int) ∧ v22 = .int .i64 (r : Int) ∧ Hid (s.ns.length ≤ 12 * r) ∧ Hid (ta ≤ l0) ∧ Hid (KL w wr lb v19 v20 us s)) 5 ?atStart ?round
  case atStart => exact ⟨0, 0, Lg.new, _, _, _, _, _, rfl, ⟨rfl, rfl, rfl, rfl, rfl, rfl, rfl, rfl, rfl, rfl, rfl⟩, rfl, rfl, Nat.zero_le _, Nat.zero_le _, HK0⟩
  case round =>
    clear HK0
    intro gk _ wr hinv
    obtain ⟨r, ta, s, us, vd, vm, _, _, HG, hF, rfl, rfl, HNS, HTA, HK⟩ := hinv
    obtain ⟨g, rfl⟩ := hF.open'
    clear hF
    intro _ _ _ _
    (try dsimp only)
    by_cases g1 : (r : Int) ≤ (l2 : Int)
    · by_cases g2 : (r : Int) < 4
      · go_upto_if 125 with fail
        refine wp_cut (fun a' wx => ∃ (s2 : Lg), Fr14 a' (.slice a0 l0 c0) (.slice a1 l1 c1) (.slice a2 l2 c2) (.slice a3 l3 c3) (.pointer (some ⟨lb, 0, none⟩)) vd vm (.int .i64 (ta : Int)) (.int .i64 (r : Int)) ∧ Hid (s2.ns = s.ns) ∧ Hid (KL w wx lb vd vm us s2)) ?rest ?first
        case first =>
          intro _ _ _ _
          by_cases p1 : (r : Int) < (l2 : Int)
          · obtain ⟨b2, o2, rfl, hb2, hc2⟩ := H2.out.at (j := r) (by omega)
            have x2 := hc2 _ HK.out.bel
            have hl2 := H2.out.1
            have hbd := H2.out.2.1 r (by omega)
            clear hc2
            generalize f2 r = y2 at x2 hbd
            have hc := k_fail HK.out y2 hbd.1 hbd.2
            go_wp2_with (go_at_call 6; refine hc.mono ?_; rintro e w2 ⟨⟨v, rfl⟩, hk2⟩; have HK2 : Hid (KL w w2 lb vd vm us { s with ah := y2 }) := hk2; clear hk2)
            refine Met.intro ?_
            go_step
            exact ⟨{ s with ah := y2 }, ⟨rfl, rfl, rfl, rfl, rfl, rfl, rfl, rfl, rfl, rfl, rfl⟩, rfl, HK2⟩
          · go_wp2_with fail
            refine Met.intro ?_
            go_step
            exact ⟨s, ⟨rfl, rfl, rfl, rfl, rfl, rfl, rfl, rfl, rfl, rfl, rfl⟩, rfl, HK⟩
        case rest =>
        intro _ wc hcut
        obtain ⟨s2, hF, HS2, HK2⟩ := hcut
        obtain ⟨g, rfl⟩ := hF.open'
        clear hF
        (try dsimp only)
        have HNS2 : Hid (s2.ns.length ≤ 12 * r + 0) := by show s2.ns.length ≤ _; rw [HS2.out]; exact HNS.out
        clear HK HNS HS2 g1
        have HNS := HNS2
        have HK := HK2
        clear HNS2 HK2
        generalize s2 = s at *
        go_wp2_with fail
        refine wp_loop_ghost_k (fun gj a' wr => ∃ (k ta : Nat) (s : Lg) (us : List Value) (v19 v20 v21 v23 : Value), Hid (gj + k = 12) ∧ Fr7 a' (.slice a0 l0 c0) (.slice a1 l1 c1) (.slice a2 l2 c2) (.slice a3 l3 c3) (.pointer (some ⟨lb, 0, none⟩)) v19 v20 v21 (.int .i64 (r : Int)) v23 ∧ v21 = .int .i64 (ta : Int) ∧ v23 = .int .i64 (k : Int) ∧ Hid (s.ns.length ≤ 12 * r + k) ∧ Hid (ta ≤ l0) ∧ Hid (KL w wr lb v19 v20 us s)) 12 ?atStart ?round
        case atStart => exact ⟨0, ta, s, us, _, _, _, _, rfl, ⟨rfl, rfl, rfl, rfl, rfl, rfl, rfl, rfl, rfl, rfl, rfl, rfl⟩, rfl, rfl, HNS, HTA, HK⟩
        case round =>
          clear HK HNS HTA
          intro gj _ wr hinv
          obtain ⟨k, ta, s, us, vd, vm, _, _, HJ, hF, rfl, rfl, HNS, HTA, HK⟩ := hinv
          obtain ⟨g, rfl⟩ := hF.open'
          clear hF
          intro _ _ _ _
          (try dsimp only)
          go_upto_region 20 with fail
          refine wp_cut (fun a' wx => ∃  (v139 : Value), Fr13 a' (.slice a0 l0 c0) (.slice a1 l1 c1) (.slice a2 l2 c2) (.slice a3 l3 c3) (.pointer (some ⟨lb, 0, none⟩)) vd vm (.int .i64 (ta : Int)) (.int .i64 (r : Int)) (.int .i64 (k : Int)) v139 ∧ v139 = .bool (decide ((k : Int) < 12 ∧ (ta : Int) < (l0 : Int))) ∧ wx = wr) ?rest ?first
          case first =>
            intro _ _ _ _
            by_cases p1 : (k : Int) < 12
            · by_cases p2 : (ta : Int) < (l0 : Int)
              · have HE : Hid (decide ((k : Int) < 12 ∧ (ta : Int) < (l0 : Int)) = true) := decide_eq_true ⟨p1, p2⟩
                go_wp2_with fail
                refine Met.intro ?_
                go_step
                exact ⟨_, ⟨rfl, rfl, rfl, rfl, rfl, rfl, rfl, rfl, rfl, rfl, rfl, rfl, rfl⟩, by rw [HE.out], rfl⟩
              · have HE : Hid (decide ((k : Int) < 12 ∧ (ta : Int) < (l0 : Int)) = false) := decide_eq_false (fun h => p2 h.2)
                go_wp2_with fail
                refine Met.intro ?_
                go_step
                exact ⟨_, ⟨rfl, rfl, rfl, rfl, rfl, rfl, rfl, rfl, rfl, rfl, rfl, rfl, rfl⟩, by rw [HE.out], rfl⟩
            · have HE : Hid (decide ((k : Int) < 12 ∧ (ta : Int) < (l0 : Int)) = false) := decide_eq_false (fun h => p1 h.1)
              go_wp2_with fail
              refine Met.intro ?_
              go_step
              exact ⟨_, ⟨rfl, rfl, rfl, rfl, rfl, rfl, rfl, rfl, rfl, rfl, rfl, rfl, rfl⟩, by rw [HE.out], rfl⟩
          case rest =>
          intro _ wc hcut
          obtain ⟨_, hF, rfl, hwx⟩ := hcut
          obtain ⟨g, rfl⟩ := hF.open'
          clear hF
          (try dsimp only)
          subst hwx
          by_cases hgo : (k : Int) < 12 ∧ (ta : Int) < (l0 : Int)
          · rw [decide_eq_true hgo]
            obtain ⟨hk12, htl⟩ := hgo
            obtain ⟨b0, o0, rfl, hb0, hc0⟩ := H0.out.at (j := ta) (by omega)
            have HLC : Hid (∀ X, Below w.heap.size w X → X.cell? ⟨b0, o0 + ta, none⟩ = some (.int .i64 (f0 ta))) := hc0
            clear hc0
            generalize f0 ta = n at HLC
            go_upto_region 22 with fail
            refine wp_cut (fun a' wx => ∃ (s2 : Lg) (v164 : Value), Fr1 a' (.slice (some ⟨b0, o0, none⟩) l0 c0) (.slice a1 l1 c1) (.slice a2 l2 c2) (.slice a3 l3 c3) (.pointer (some ⟨lb, 0, none⟩)) vd vm (.int .i64 (ta : Int)) (.int .i64 (r : Int)) (.int .i64 (k : Int)) v164 ∧ v164 = .bool false ∧ Hid (s2.ns = s.ns) ∧ Hid (KL w wx lb vd vm us s2)) ?rest ?first
            case first =>
              intro _ _ _ _
              by_cases p1 : (ta : Int) < (l1 : Int)
              · obtain ⟨b1, o1, rfl, hb1, hc1⟩ := H1.out.at (j := ta) (by omega)
                have x1 := hc1 _ HK.out.bel
                have hl1 := H1.out.1
                clear hc1
                generalize f1 ta = y1 at x1
                by_cases p2 : y1 = 1
                · subst p2
                  have hc := k_sync HK.out
                  obtain ⟨hsn, hsc⟩ := sync_cases HK.out.inv
                  have HSN : Hid ((syS s).ns = s.ns) := hsn
                  rcases hsc with ⟨e1, e2⟩ | e1
                  · have HSF : Hid ((syS s).sf = (syS s).bs.length) := e2
                    rw [e1, errV_0] at hc
                    clear e1 e2 hsn
                    go_wp2_with (first | (go_at_call 9; refine hc.mono ?_; rintro e w2 ⟨rfl, hk2⟩; have HK2 : Hid (Kq w w2 lb vd vm (.slice none 0 0) us s.ns (s.ns.length + 1) [] (syS s)) := hk2; have hsa := k_safe hk2; have hby := k_bytes hk2; rw [HSF.out] at hsa; generalize (syS s).bs.length = bb at hsa hby; clear hk2 hc) | (go_at_call 12; refine hsa.mono ?_; rintro e w3 ⟨rfl, hw3⟩; obtain rfl := hw3.symm) | (go_at_call 13; refine hby.mono ?_; rintro e w4 ⟨rfl, hw4⟩; obtain rfl := hw4.symm))
                    refine Met.intro ?_
                    go_step
                    exact ⟨syS s, _, ⟨rfl, rfl, rfl, rfl, rfl, rfl, rfl, rfl, rfl, rfl, rfl, rfl, rfl⟩, rfl, HSN, (by show KL _ _ _ _ _ _ _; unfold KL; rw [HSN.out]; exact HK2.out)⟩
                  · rw [e1, errV_f (by decide)] at hc
                    clear e1 hsn
                    go_wp2_with (go_at_call 9; refine hc.mono ?_; rintro e w2 ⟨rfl, hk2⟩; have HK2 : Hid (Kq w w2 lb vd vm (.slice none 0 0) us s.ns (s.ns.length + 1) [] (syS s)) := hk2; clear hk2)
                    refine Met.intro ?_
                    go_step
                    exact ⟨syS s, _, ⟨rfl, rfl, rfl, rfl, rfl, rfl, rfl, rfl, rfl, rfl, rfl, rfl, rfl⟩, rfl, HSN, (by show KL _ _ _ _ _ _ _; unfold KL; rw [HSN.out]; exact HK2.out)⟩
                · have p3 : (y1 == 1) = false := by simpa using p2
                  go_wp2_with fail
                  refine Met.intro ?_
                  go_step
                  exact ⟨s, _, ⟨rfl, rfl, rfl, rfl, rfl, rfl, rfl, rfl, rfl, rfl, rfl, rfl, rfl⟩, rfl, rfl, HK⟩
              · go_wp2_with fail
                refine Met.intro ?_
                go_step
                exact ⟨s, _, ⟨rfl, rfl, rfl, rfl, rfl, rfl, rfl, rfl, rfl, rfl, rfl, rfl, rfl⟩, rfl, rfl, HK⟩
            case rest =>
            intro _ wc hcut
            obtain ⟨s2, _, hF, rfl, HS2, HK2⟩ := hcut
            obtain ⟨g, rfl⟩ := hF.open'
            clear hF
            (try dsimp only)
            have HNS2 : Hid (s2.ns.length ≤ 12 * r + k) := by show s2.ns.length ≤ _; rw [HS2.out]; exact HNS.out
            clear HK HNS HS2
            have HNS := HNS2
            have HK := HK2
            clear HNS2 HK2
            generalize s2 = s at *
            have HFW : Hid (s.ns.length < 100000) := by show s.ns.length < 100000; have := HNS.out; omega
            have HFT : Hid (Fit s.ns) := HK.out.inv.fit
            obtain ⟨gd, cd, hvd, hcd, hcm, hcc, hgd, hul⟩ := Kq.shD HK.out
            obtain ⟨au, cu, hua⟩ := Kq.shU HK.out (i := s.ns.length) (Nat.le_refl _)
            have xd := hcc s.ns.length (by omega)
            rw [hua, List.take_length] at xd
            have HRU : Hid (Row wc (.slice au (rgN s.ns).length cu) (rgN s.ns)) := by
              have h := Kq.rowAt HK.out (i := s.ns.length) (Nat.le_refl _) HFT.out
              rw [hua, List.take_length] at h
              exact h
            have HUL : Hid (us.length = s.ns.length + 1) := hul
            subst hvd
            clear hcc hua
            generalize hlu : (rgN s.ns).length = lu at xd HRU
            have HLU : Hid ((rgN s.ns).length = lu) := hlu
            clear hlu
            generalize hNL : s.ns.length = NL at xd
            generalize hLL : us.length = LL at hcd HK ⊢
            have h1L : (LL : Int) - 1 = (NL : Int) := by omega
            have h2L : (NL : Int) < (LL : Int) := by omega
            have hLb : (LL : Int) ≤ 100001 := by have := HFW.out; omega
            have HNL : Hid (s.ns.length = NL) := hNL
            have HLL : Hid (us.length = LL) := hLL
            clear hNL hLL hul
            have x0 := HLC.out _ HK.out.bel
            have hl0 := H0.out.1
            generalize wc = wr at *
            go_upto_if 177 with (go_at_call 15; refine (may_calls n _).mono ?_; rintro e w2 ⟨rfl, hw2⟩; obtain rfl := hw2.symm)
            refine wp_cut (fun a' wx => ∃ (xv : Value) (xz : List R) (v25 v26 v27 : Value), Fr3 a' (.slice (some ⟨b0, o0, none⟩) l0 c0) (.slice a1 l1 c1) (.slice a2 l2 c2) (.slice a3 l3 c3) (.pointer (some ⟨lb, 0, none⟩)) (.slice (some ⟨gd, 0, none⟩) LL cd) vm (.int .i64 (ta : Int)) (.int .i64 (r : Int)) (.int .i64 (k : Int)) (.slice au lu cu) v25 v26 v27 ∧ v26 = .int .i64 (dF s.ns n) ∧ v27 = .bool (dB s.ns n) ∧ Hid (dB s.ns n = true → v25 = xv ∧ xz = rgN (s.ns ++ [n])) ∧ Hid (Kq w wx lb (.slice (some ⟨gd, 0, none⟩) LL cd) vm xv us s.ns (s.ns.length + 1) xz s)) ?rest ?first
            case first =>
              intro _ _ _ _
              cases hN : isN n with
              | false =>
                have HD : Hid (dB s.ns n = false) := by show dB s.ns n = false; simp [dB, hN]
                have HDF : Hid (dF s.ns n = 1) := by show dF s.ns n = 1; rw [dF, if_neg (by rw [hN]; decide)]
                go_wp2_with fail
                refine Met.intro ?_
                go_step
                exact ⟨_, _, _, _, _, ⟨rfl, rfl, rfl, rfl, rfl, rfl, rfl, rfl, rfl, rfl, rfl, rfl, rfl, rfl, rfl, rfl⟩, by rw [HDF.out], by rw [HD.out], (fun e => by rw [HD.out] at e; exact Bool.noConfusion e), HK⟩
              | true =>
                have hdw := fun X (hX : Below w.heap.size w X) (hR : Row X (.slice au lu cu) (rgN s.ns)) => dwith_calls (.slice au lu cu) (rgN s.ns) n X hR HK.out.inv.fit.chk hN
                have hin := fun X (hR : Row X (.slice au lu cu) (rgN s.ns)) => rin_calls (.slice au lu cu) (rgN s.ns) n X hR
                have HR0 : Hid (∀ X, Below wr.heap.size wr X → Row X (.slice au lu cu) (rgN s.ns)) := fun X hX => HRU.out.below hX
                go_upto_region 30 with fail
                refine wp_cut (fun a' wx => ∃ (al : Nat) (ax : Option Addr) (cx : Nat) (v25 : Value), Fr2 a' (.slice (some ⟨b0, o0, none⟩) l0 c0) (.slice a1 l1 c1) (.slice a2 l2 c2) (.slice a3 l3 c3) (.pointer (some ⟨lb, 0, none⟩)) (.slice (some ⟨gd, 0, none⟩) LL cd) vm (.int .i64 (ta : Int)) (.int .i64 (r : Int)) (.int .i64 (k : Int)) (.slice au lu cu) v25 (.int .i64 0) ∧ v25 = .slice ax al cx ∧ Hid ((addL (rgN s.ns) n).length = al) ∧ Hid (Kq w wx lb (.slice (some ⟨gd, 0, none⟩) LL cd) vm (.slice ax al cx) us s.ns (s.ns.length + 1) (addL (rgN s.ns) n) s) ∧ Hid (Below wr.heap.size wr wx)) ?rest2 ?first2
                case first2 =>
                  intro _ _ _ _
                  have bD : Below wr.heap.size wr wr.drew := ⟨rfl, rfl, rfl, Nat.le_refl _, fun _ _ => rfl⟩
                  have HB1 := HLC.out
                  go_region_held3 (fun X => X.cell? ⟨b0, o0 + ta, none⟩ = some (.int .i64 n)) (go_keep) (first | (go_at_call 16; refine (hdw _ (HK.out.bel.trans (bD.mono HK.out.bel.size)) (HR0.out _ bD)).mono ?_; rintro e w11 ⟨v11, rfl, ho11, hb11⟩; obtain ⟨ax, cx, hvx⟩ := ownSh ho11; subst hvx; have x0 := HB1 _ ((HK.out.bel.trans (bD.mono HK.out.bel.size)).trans (hb11.mono (HK.out.bel.trans (bD.mono HK.out.bel.size)).size)); have HKX : Hid (Kq w w11 lb (.slice (some ⟨gd, 0, none⟩) LL cd) vm _ us s.ns (s.ns.length + 1) (addL (rgN s.ns) n) s) := Kq.more (Kq.below HK.out bD) hb11 ho11))
                  all_goals (try go_wp2_with fail)
                  all_goals (refine Met.intro ?_; go_step)
                  all_goals exact ⟨_, _, _, _, ⟨rfl, rfl, rfl, rfl, rfl, rfl, rfl, rfl, rfl, rfl, rfl, rfl, rfl, rfl, rfl⟩, rfl, rfl, HKX, bD.trans (hb11.mono bD.size)⟩
                case rest2 =>
                intro _ wc hcut
                obtain ⟨al, ax, cx, _, hF, rfl, HAL, HKX, HBX⟩ := hcut
                obtain ⟨g, rfl⟩ := hF.open'
                clear hF
                (try dsimp only)
                have HRX : Row wc (.slice au lu cu) (rgN s.ns) := HR0.out _ HBX.out
                have hi := hin wc HRX
                have x0 := HLC.out _ HKX.out.bel
                clear hdw hin HRX
                have HMB : Hid (dB s.ns n = (decide ((addL (rgN s.ns) n).length ≤ 12) && !memB (rgN s.ns) n)) := by show dB s.ns n = _; simp [dB, hN]
                generalize memB (rgN s.ns) n = mb at hi HMB
                by_cases h13 : (12 : Int) < (al : Int)
                · have HD : Hid (dB s.ns n = false) := by
                    have h : ¬ (addL (rgN s.ns) n).length ≤ 12 := by have := HAL.out; omega
                    show dB s.ns n = false
                    rw [HMB.out, decide_eq_false h]; rfl
                  have HDF : Hid (dF s.ns n = 4) := by show dF s.ns n = 4; rw [dF, if_pos hN, if_pos (by have := HAL.out; omega)]
                  go_wp2_with (go_at_call 17; refine hi.mono ?_; rintro e w12 ⟨rfl, hb12⟩)
                  refine Met.intro ?_
                  go_step
                  exact ⟨_, _, _, _, _, ⟨rfl, rfl, rfl, rfl, rfl, rfl, rfl, rfl, rfl, rfl, rfl, rfl, rfl, rfl, rfl, rfl⟩, by rw [HDF.out], by rw [HD.out], (fun e => by rw [HD.out] at e; exact Bool.noConfusion e), HKX.out.below hb12⟩
                · have HD : Hid (dB s.ns n = !mb) := by
                    have h : (addL (rgN s.ns) n).length ≤ 12 := by have := HAL.out; omega
                    show dB s.ns n = !mb
                    rw [HMB.out, decide_eq_true h]; rfl
                  have HDF : Hid (dF s.ns n = 0) := by show dF s.ns n = 0; rw [dF, if_pos hN, if_neg (by have := HAL.out; omega)]
                  go_wp2_with (go_at_call 17; refine hi.mono ?_; rintro e w12 ⟨rfl, hb12⟩)
                  refine Met.intro ?_
                  go_step
                  exact ⟨_, _, _, _, _, ⟨rfl, rfl, rfl, rfl, rfl, rfl, rfl, rfl, rfl, rfl, rfl, rfl, rfl, rfl, rfl, rfl⟩, by rw [HDF.out], by rw [HD.out], (fun e => ⟨rfl, dB_next.symm⟩), HKX.out.below hb12⟩
            case rest =>
            intro _ wc hcut
            obtain ⟨xv, xz, vx, _, _, hF, rfl, rfl, HX, HKX⟩ := hcut
            obtain ⟨g, rfl⟩ := hF.open'
            clear hF
            (try dsimp only)
            have hby := k_bytes HKX.out
            have hca := k_came HKX.out n HFW.out
            have hs1 := fun X (hX : Below w.heap.size w X) => same_errV' (caF s n) 6 X (HH.out.below hX)
            have hs2 := fun X (hX : Below w.heap.size w X) => same_errV' (caF s n) (dF s.ns n) X (HH.out.below hX)
            have hC := keep_four HKX.out.inv n
            have hblb := HKX.out.inv.bl
            generalize hbl : s.bs.length = bl at hby hC hblb
            have HBN : Hid (s.bs.length = bl) := hbl
            clear hbl
            have HC : Hid (Four s n bl (caF s n == 6) (caF s n == dF s.ns n) (caB s n) (dB s.ns n) (errV (caF s n)) (caS s n)) := hC
            clear hC
            generalize (caF s n == 6) = b6 at *
            generalize (caF s n == dF s.ns n) = bt at *
            generalize caB s n = cb at *
            generalize dB s.ns n = db at *
            generalize errV (caF s n) = er at *
            generalize dF s.ns n = df at *
            generalize caS s n = s4 at *
            have hta : (ta : Int) < 9223372036854775807 := by omega
            have x0 := HLC.out _ HKX.out.bel
            go_wp2_with fail
            refine hby.mono ?_
            rintro e w3 ⟨rfl, hw3⟩
            obtain rfl := hw3.symm
            clear hby
            go_wp2_with fail
            refine hca.mono ?_
            rintro e w4 ⟨rfl, hk4⟩
            clear hca x0 xd
            go_wp2_with fail
            refine (hs1 _ hk4.bel).mono ?_
            rintro e w5 ⟨rfl, hb5⟩
            have hk5 := hk4.below hb5
            clear hs1 hk4 hb5
            go_wp2_with fail
            refine (hs2 _ hk5.bel).mono ?_
            rintro e w6 ⟨rfl, hb6⟩
            have hk6 := hk5.below hb6
            clear hs2 hk5 hb6
            go_upto_region 41 with fail
            refine wp_cut (fun a' wx => ∃  (v233 : Value), Fr5 a' (.slice (some ⟨b0, o0, none⟩) l0 c0) (.slice a1 l1 c1) (.slice a2 l2 c2) (.slice a3 l3 c3) (.pointer (some ⟨lb, 0, none⟩)) (.slice (some ⟨gd, 0, none⟩) LL cd) vm (.int .i64 ((ta : Int) + 1)) (.int .i64 (r : Int)) (.int .i64 (k : Int)) vx (.bool db) (.int .i64 (bl : Int)) (.bool cb) er (.bool b6) (.bool bt) v233 ∧ v233 = .bool false ∧ wx = w6) ?rest ?first
            case first =>
              intro _ _ _ _
              clear hk6
              rcases HC.out with ⟨h1, h2, h3, -⟩ | ⟨f, h1, h2, h3, h4, h5, -⟩ | ⟨h1, h2, h3, h4, h5, -⟩ | ⟨h1, h2, h3, h4, h5, -⟩
              · subst h1 h2 h3
                go_wp2_with fail
                refine Met.intro ?_
                go_step
                exact ⟨_, ⟨rfl, rfl, rfl, rfl, rfl, rfl, rfl, rfl, rfl, rfl, rfl, rfl, rfl, rfl, rfl, rfl, rfl, rfl, rfl, rfl⟩, rfl, rfl⟩
              · subst h1 h2 h3 h4 h5
                go_wp2_with fail
                refine Met.intro ?_
                go_step
                exact ⟨_, ⟨rfl, rfl, rfl, rfl, rfl, rfl, rfl, rfl, rfl, rfl, rfl, rfl, rfl, rfl, rfl, rfl, rfl, rfl, rfl, rfl⟩, rfl, rfl⟩
              · subst h1 h2 h3 h4 h5
                go_wp2_with fail
                refine Met.intro ?_
                go_step
                exact ⟨_, ⟨rfl, rfl, rfl, rfl, rfl, rfl, rfl, rfl, rfl, rfl, rfl, rfl, rfl, rfl, rfl, rfl, rfl, rfl, rfl, rfl⟩, rfl, rfl⟩
              · subst h1 h2 h3 h4 h5
                go_wp2_with fail
                refine Met.intro ?_
                go_step
                exact ⟨_, ⟨rfl, rfl, rfl, rfl, rfl, rfl, rfl, rfl, rfl, rfl, rfl, rfl, rfl, rfl, rfl, rfl, rfl, rfl, rfl, rfl⟩, rfl, rfl⟩
            case rest =>
            intro _ wc hcut
            obtain ⟨_, hF, rfl, hwx⟩ := hcut
            obtain ⟨g, rfl⟩ := hF.open'
            clear hF
            (try dsimp only)
            subst hwx
            go_upto_region 43 with fail
            refine wp_cut (fun a' wx => ∃  (v238 : Value), Fr6 a' (.slice (some ⟨b0, o0, none⟩) l0 c0) (.slice a1 l1 c1) (.slice a2 l2 c2) (.slice a3 l3 c3) (.pointer (some ⟨lb, 0, none⟩)) (.slice (some ⟨gd, 0, none⟩) LL cd) vm (.int .i64 ((ta : Int) + 1)) (.int .i64 (r : Int)) (.int .i64 (k : Int)) vx (.bool db) (.int .i64 (bl : Int)) (.bool cb) er (.bool b6) (.bool bt) v238 ∧ v238 = .bool cb ∧ wx = wc) ?rest ?first
            case first =>
              intro _ _ _ _
              clear hk6
              rcases HC.out with ⟨h1, h2, h3, -⟩ | ⟨f, h1, h2, h3, h4, h5, -⟩ | ⟨h1, h2, h3, h4, h5, -⟩ | ⟨h1, h2, h3, h4, h5, -⟩
              · subst h1 h2 h3
                go_wp2_with fail
                refine Met.intro ?_
                go_step
                exact ⟨_, ⟨rfl, rfl, rfl, rfl, rfl, rfl, rfl, rfl, rfl, rfl, rfl, rfl, rfl, rfl, rfl, rfl, rfl, rfl, rfl, rfl⟩, rfl, rfl⟩
              · subst h1 h2 h3 h4 h5
                go_wp2_with fail
                refine Met.intro ?_
                go_step
                exact ⟨_, ⟨rfl, rfl, rfl, rfl, rfl, rfl, rfl, rfl, rfl, rfl, rfl, rfl, rfl, rfl, rfl, rfl, rfl, rfl, rfl, rfl⟩, rfl, rfl⟩
              · subst h1 h2 h3 h4 h5
                go_wp2_with fail
                refine Met.intro ?_
                go_step
                exact ⟨_, ⟨rfl, rfl, rfl, rfl, rfl, rfl, rfl, rfl, rfl, rfl, rfl, rfl, rfl, rfl, rfl, rfl, rfl, rfl, rfl, rfl⟩, rfl, rfl⟩
              · subst h1 h2 h3 h4 h5
                go_wp2_with fail
                refine Met.intro ?_
                go_step
                exact ⟨_, ⟨rfl, rfl, rfl, rfl, rfl, rfl, rfl, rfl, rfl, rfl, rfl, rfl, rfl, rfl, rfl, rfl, rfl, rfl, rfl, rfl⟩, rfl, rfl⟩
            case rest =>
            intro _ w6 hcut
            obtain ⟨_, hF, rfl, hwx⟩ := hcut
            obtain ⟨g, rfl⟩ := hF.open'
            clear hF
            (try dsimp only)
            subst hwx
            go_upto_if 238 with fail
            refine wp_cut (fun a' wx => ∃ (us2 : List Value) (v19 v20 : Value), Fr7 a' (.slice (some ⟨b0, o0, none⟩) l0 c0) (.slice a1 l1 c1) (.slice a2 l2 c2) (.slice a3 l3 c3) (.pointer (some ⟨lb, 0, none⟩)) v19 v20 (.int .i64 ((ta : Int) + 1)) (.int .i64 (r : Int)) (.int .i64 (k : Int)) ∧ Hid (KL w wx lb v19 v20 us2 s4)) ?rest ?first
            case first =>
              intro _ _ _ _
              cases hcb : cb with
              | true =>
                obtain ⟨_, _, _, h4, h5, h6, h7, h8⟩ : b6 = false ∧ bt = true ∧ cb = true ∧ db = true ∧ er = .nilIface ∧ s4.ns = s.ns ++ [n] ∧ s4.bs.length = bl + 4 ∧ bl = 4 * s.ns.length := by
                  rcases HC.out with ⟨_, h, _⟩ | ⟨_, _, _, h, _⟩ | ⟨_, _, h, _⟩ | h
                  · rw [hcb] at h; exact Bool.noConfusion h
                  · rw [hcb] at h; exact Bool.noConfusion h
                  · rw [hcb] at h; exact Bool.noConfusion h
                  · exact h
                obtain ⟨hx1, hx2⟩ := HX.out h4
                have HNS4 : Hid (s4.ns = s.ns ++ [n]) := h6
                have HBL4 : Hid (s4.bs.length = 4 * (s.ns.length + 1)) := by show _ = _; omega
                have hby4 := k_bytes hk6
                rw [h7] at hby4
                have hbi : ¬ ((bl : Int) + 4 < (bl : Int) + 2) := by omega
                obtain ⟨ax, cx, hxs⟩ := Kq.shX hk6
                have HXV : Hid (xv = .slice ax xz.length cx) := hxs
                have HXZ : Hid (xz = rgN (s.ns ++ [n])) := hx2
                have HK6 : Hid (Kq w w6 lb (.slice (some ⟨gd, 0, none⟩) LL cd) vm xv us s.ns (s.ns.length + 1) xz s4) := hk6
                obtain ⟨i0, hi0, hz0, hz1, hz2⟩ := info_parts infoS
                obtain ⟨j0, hj0, hw0, hw1, hw2⟩ := info_parts infoI
                rw [hx1, hxs]
                subst hcb
                clear h4 h5 h6 h7 h8 hx1 hx2 hxs hk6 HX
                generalize xz.length = xl at *
                have bA : Below w6.heap.size w6 (w6.alloc (.cells #[.slice ax xl cx] 34)) := (Below.refl _ _).alloc (Nat.le_refl _) _
                have hK7 := HK6.out.below bA
                have hr7 := hK7.rows.1
                have hle7 := hK7.rows.2.2
                rw [HLL.out] at hr7
                have HK7 : Hid (Kq w (w6.alloc (.cells #[.slice ax xl cx] 34)) lb (.slice (some ⟨gd, 0, none⟩) LL cd) vm xv us s.ns (s.ns.length + 1) xz s4) := hK7
                clear hK7 bA
                go_wp2_with (first | (go_at_call 13; refine hby4.mono ?_; rintro e w7 ⟨rfl, hw7⟩; obtain rfl := hw7.symm; clear hby4) | (at_builtin; refine wpList_append_own_at _ rfl (.tmp 244) (.tmp 246) 38 rfl w.heap.size 34 i0 _ 1 24 Tryd.underlying38 hi0 hz0 hz1 hz2 rfl (by decide) (.slice (some ⟨gd, 0, none⟩) LL cd) LL us rfl hr7 ⟨w6.heap.size, 0, none⟩ 1 1 [.slice ax xl cx] rfl rfl (cell_new w6 _ _) (by intro u hu; simp at hu; subst hu; rfl) (by unfold maxLen; omega) (by omega) hle7 ?_; intro v8 w8 ho8 hg8 _ hl8; obtain ⟨a8, c8, hv8⟩ := ownSh ho8; subst hv8; have hK8 : Kq w w8 lb (.slice a8 (LL + 1) c8) vm (.slice none 0 0) (us ++ [xv]) (s.ns ++ [n]) (s.ns.length + 1) [] s4 := Kq.appD HK7.out (by rw [HLL.out, HXV.out]; exact ho8) hg8 hl8 HXZ.out; have hby8 := k_bytes hK8; have HK8 : Hid (Kq w w8 lb (.slice a8 (LL + 1) c8) vm (.slice none 0 0) (us ++ [xv]) (s.ns ++ [n]) (s.ns.length + 1) [] s4) := hK8; clear hK8 ho8 hg8 hl8 hr7 hle7))
                rw [HBL4.out] at hby8
                generalize hMM : s.ns.length + 1 = MM at hby8 HK8
                have HMM : Hid (s.ns.length + 1 = MM) := hMM
                have hMb : MM ≤ 100001 := by have := HFW.out; omega
                clear hMM
                have bB : Below w8.heap.size w8 (w8.alloc (.cells #[.int .i64 ((4 * MM : Nat) : Int)] 3)) := (Below.refl _ _).alloc (Nat.le_refl _) _
                have hK9 := HK8.out.below bB
                have hr9 := hK9.rows.2.1
                have hle9 := hK9.rows.2.2
                have hcn := cell_new w8 (.int .i64 ((4 * MM : Nat) : Int)) 3
                have HSN : Hid (mks (MM + 1) = mks MM ++ [Value.int .i64 ((4 * MM : Nat) : Int)]) := mks_snoc MM
                have HK9 : Hid (Kq w (w8.alloc (.cells #[.int .i64 ((4 * MM : Nat) : Int)] 3)) lb (.slice a8 (LL + 1) c8) vm (.slice none 0 0) (us ++ [xv]) (s.ns ++ [n]) MM [] s4) := hK9
                clear hK9 bB HK8
                generalize 4 * MM = YV at *
                refine hby8.mono ?_
                rintro e w9 ⟨rfl, hw9⟩
                obtain rfl := hw9.symm
                clear hby8
                go_wp2_with (at_builtin; refine wpList_append_own_at _ rfl (.tmp 248) (.tmp 251) 33 rfl w.heap.size 3 j0 _ 1 8 Tryd.underlying33 hj0 hw0 hw1 hw2 rfl (by decide) vm MM (mks MM) rfl hr9 ⟨w8.heap.size, 0, none⟩ 1 1 [.int .i64 (YV : Int)] rfl rfl hcn (by intro u hu; simp at hu; subst hu; rfl) (by unfold maxLen; omega) (by omega) hle9 ?_; intro v10 w10 ho10 hg10 _ hl10; obtain ⟨a10, c10, hv10⟩ := ownSh ho10; subst hv10; have HKF : Hid (KL w w10 lb (.slice a8 (LL + 1) c8) (.slice a10 (MM + 1) c10) (us ++ [xv]) s4) := (by show Kq w w10 lb _ _ _ _ s4.ns (s4.ns.length + 1) [] s4; rw [HNS4.out, List.length_append, List.length_singleton, HMM.out]; exact Kq.appM HK9.out (by rw [HSN.out]; exact ho10) hg10 hl10); clear ho10 hg10 hl10 hr9 hle9 hcn)
                refine Met.intro ?_
                go_step
                exact ⟨us ++ [xv], _, _, ⟨rfl, rfl, rfl, rfl, rfl, rfl, rfl, rfl, rfl, rfl, rfl, rfl⟩, HKF⟩
              | false =>
                have HSA : Hid (s4.ns = s.ns) := by
                  show s4.ns = s.ns
                  rcases HC.out with ⟨_, _, _, h⟩ | ⟨_, _, _, _, _, _, h⟩ | ⟨_, _, _, _, _, h, _⟩ | ⟨_, _, h, _⟩
                  · exact h
                  · exact h
                  · exact h
                  · rw [hcb] at h; exact Bool.noConfusion h
                have HKF : Hid (KL w w6 lb (.slice (some ⟨gd, 0, none⟩) LL cd) vm us s4) := by
                  show Kq w w6 lb _ _ _ _ s4.ns (s4.ns.length + 1) [] s4
                  rw [HSA.out]
                  exact Kq.less hk6
                have hby6 := k_bytes hk6
                clear hk6
                subst hcb
                rcases HC.out with ⟨_, _, h3, -⟩ | ⟨f, _, _, _, _, h5, -⟩ | ⟨_, _, _, _, h5, _, h7⟩ | ⟨_, _, h, -⟩
                · subst h3
                  go_wp2_with fail
                  refine Met.intro ?_
                  go_step
                  exact ⟨us, _, _, ⟨rfl, rfl, rfl, rfl, rfl, rfl, rfl, rfl, rfl, rfl, rfl, rfl⟩, HKF⟩
                · subst h5
                  go_wp2_with fail
                  refine Met.intro ?_
                  go_step
                  exact ⟨us, _, _, ⟨rfl, rfl, rfl, rfl, rfl, rfl, rfl, rfl, rfl, rfl, rfl, rfl⟩, HKF⟩
                · subst h5
                  rw [h7] at hby6
                  clear h7
                  go_wp2_with (go_at_call 13; refine hby6.mono ?_; rintro e w7 ⟨rfl, hw7⟩; obtain rfl := hw7.symm)
                  refine Met.intro ?_
                  go_step
                  exact ⟨us, _, _, ⟨rfl, rfl, rfl, rfl, rfl, rfl, rfl, rfl, rfl, rfl, rfl, rfl⟩, HKF⟩
                · exact Bool.noConfusion h
            case rest =>
            clear hk6 HX HKX HK
            intro _ wr hcut
            obtain ⟨us2, vd, vm, hF, HK⟩ := hcut
            obtain ⟨g, rfl⟩ := hF.open'
            clear hF
            (try dsimp only)
            have HN4 : Hid (s4.ns.length ≤ 12 * r + (k + 1)) := by
              show s4.ns.length ≤ _
              have h9 := HNS.out
              rcases HC.out with ⟨_, _, _, h⟩ | ⟨_, _, _, _, _, _, h⟩ | ⟨_, _, _, _, _, h, _⟩ | ⟨_, _, _, _, _, h, _⟩
              · rw [h]; omega
              · rw [h]; omega
              · rw [h]; omega
              · rw [h]; simp; omega
            have hN4 := HN4.out
            obtain ⟨gd, cd, hvd, hcd, hcm, hcc, hgd, hul⟩ := Kq.shD HK.out
            obtain ⟨au, cu, hua⟩ := Kq.shU HK.out (i := s4.ns.length) (Nat.le_refl _)
            have xd := hcc s4.ns.length (by omega)
            rw [hua, List.take_length] at xd
            have HRU : Hid (Row wr (.slice au (rgN s4.ns).length cu) (rgN s4.ns)) := by
              have h := Kq.rowAt HK.out (i := s4.ns.length) (Nat.le_refl _) HK.out.inv.fit
              rw [hua, List.take_length] at h
              exact h
            subst hvd
            clear hcc hua
            generalize hlu : (rgN s4.ns).length = lu at xd HRU
            have HLU : Hid ((rgN s4.ns).length = lu) := hlu
            clear hlu
            generalize hNL : s4.ns.length = NL at xd hul hN4
            have HNL : Hid (s4.ns.length = NL) := hNL
            clear hNL
            generalize hLL : us2.length = LL at hcd HK hul ⊢
            have HLL : Hid (us2.length = LL) := hLL
            have h1L : (LL : Int) - 1 = (NL : Int) := by omega
            have h2L : (NL : Int) < (LL : Int) := by omega
            have hLb : (LL : Int) ≤ 100001 := by omega
            have h0L : (0 : Int) ≤ (NL : Int) := by omega
            have hwL : IntKind.i64.wrap (NL : Int) = (NL : Int) := by rw [IntKind.wrap_i64]; omega
            clear hLL hul
            have bD : Below wr.heap.size wr wr.drew := ⟨rfl, rfl, rfl, Nat.le_refl _, fun _ _ => rfl⟩
            have hall := k_all (Kq.below HK.out bD)
            have HR0 : Hid (∀ X, Below wr.heap.size wr X → Row X (.slice au lu cu) (rgN s4.ns)) := fun X hX => HRU.out.below hX
            have HL12 : Hid ((rgN s4.ns).length ≤ 12) := HK.out.inv.fit.len
            go_upto_region 50 with fail
            refine wp_cut (fun a' wx => ∃  (v270 : Value), Fr4 a' (.slice (some ⟨b0, o0, none⟩) l0 c0) (.slice a1 l1 c1) (.slice a2 l2 c2) (.slice a3 l3 c3) (.pointer (some ⟨lb, 0, none⟩)) (.slice (some ⟨gd, 0, none⟩) LL cd) vm (.int .i64 ((ta : Int) + 1)) (.int .i64 (r : Int)) (.int .i64 (k : Int)) v270 ∧ v270 = .bool false ∧ Hid (KL w wx lb (.slice (some ⟨gd, 0, none⟩) LL cd) vm us2 s4)) ?rest ?first
            case first =>
              intro _ _ _ _
              go_region_held3 (fun X => X.cell? ⟨gd, NL, none⟩ = some (.slice au lu cu)) (go_keep) (first | (go_at_call 14; refine hall.mono ?_; rintro e w11 ⟨v11, rfl, ho11, hk11, hb11⟩; have hB := bD.trans (hb11.mono bD.size); have hr11 := row_of_own ho11 (by have := HL12.out; omega); have hr12 := HR0.out _ hB; have hsm := sameR_eq v11 (.slice au lu cu) (rgN s4.ns) w11 hr11 hr12; obtain ⟨a11, c11, hv11⟩ := ownSh ho11; subst hv11; have z1 := (hB.cell (p := ⟨gd, NL, none⟩) hgd).trans xd; have HK11 : Hid (KL w w11 lb (.slice (some ⟨gd, 0, none⟩) LL cd) vm us2 s4) := hk11; clear hk11 hr11 hr12 ho11) | (go_at_call 18; refine hsm.mono ?_; rintro e w12 ⟨rfl, hb12⟩; have hB2 := hB.trans (hb12.mono hB.size); have z2 := (hB2.cell (p := ⟨gd, NL, none⟩) hgd).trans xd))
              all_goals (try go_wp2_with fail)
              all_goals (refine Met.intro ?_; go_step)
              all_goals exact ⟨_, ⟨rfl, rfl, rfl, rfl, rfl, rfl, rfl, rfl, rfl, rfl, rfl, rfl, rfl⟩, rfl, Kq.below HK11.out hb12⟩
            case rest =>
            clear hall
            intro _ wc hcut
            obtain ⟨_, hF, rfl, HKZ⟩ := hcut
            obtain ⟨g, rfl⟩ := hF.open'
            clear hF
            (try dsimp only)
            clear HK
            go_wp2_with fail
            refine Handed.intro (12 - (k + 1)) (by have := HJ.out; omega) ?_
            go_step
            exact ⟨k + 1, ta + 1, s4, us2, _, _, _, _, by show _ = _; have := HJ.out; omega, ⟨rfl, rfl, rfl, rfl, rfl, rfl, rfl, rfl, rfl, rfl, rfl, rfl⟩, by go_num, by go_num, HN4, by show _ ≤ _; omega, HKZ⟩
          · rw [decide_eq_false hgo]
            clear hgo
            have HBW : Hid (Below w.heap.size w wc) := HK.out.bel
            have HKK : Hid (k ≤ 12) := by show k ≤ 12; have := HJ.out; omega
            go_upto_if 274 with fail
            refine wp_cut (fun a' wx => ∃ (kp : Int) (v34 : Value), Fr10 a' (.slice a0 l0 c0) (.slice a1 l1 c1) (.slice a2 l2 c2) (.slice a3 l3 c3) (.pointer (some ⟨lb, 0, none⟩)) vd vm (.int .i64 (ta : Int)) (.int .i64 (r : Int)) v34 ∧ v34 = .int .i64 kp ∧ Hid (-9223372036854775808 ≤ kp ∧ kp ≤ 9223372036854775807) ∧ wx = wc) ?rest ?first
            case first =>
              intro _ _ _ _
              clear HK
              by_cases p1 : (r : Int) < (l3 : Int)
              · obtain ⟨b3, o3, rfl, hb3, hc3⟩ := H3.out.at (j := r) (by omega)
                have x3 := hc3 _ HBW.out
                have hl3 := H3.out.1
                have HBD : Hid (-9223372036854775808 ≤ f3 r ∧ f3 r ≤ 9223372036854775807) := H3.out.2.1 r (by omega)
                clear hc3
                generalize f3 r = y3 at x3 HBD
                go_wp2_with fail
                refine Met.intro ?_
                go_step
                exact ⟨y3, _, ⟨rfl, rfl, rfl, rfl, rfl, rfl, rfl, rfl, rfl, rfl, rfl, rfl⟩, rfl, HBD, rfl⟩
              · go_wp2_with fail
                refine Met.intro ?_
                go_step
                exact ⟨0, _, ⟨rfl, rfl, rfl, rfl, rfl, rfl, rfl, rfl, rfl, rfl, rfl, rfl⟩, rfl, (by show (-9223372036854775808 : Int) ≤ 0 ∧ (0 : Int) ≤ 9223372036854775807; decide), rfl⟩
            case rest =>
            intro _ wd hcut
            obtain ⟨kp, _, hF, rfl, HKP, hwx⟩ := hcut
            obtain ⟨g, rfl⟩ := hF.open'
            clear hF
            (try dsimp only)
            subst hwx
            have hby := k_bytes HK.out
            have hsa := k_safe HK.out
            have hcr := k_crash HK.out kp HKP.out.1 HKP.out.2
            have hI := HK.out.inv
            obtain ⟨cr1, cr2, cr3, cr4⟩ := crS_facts hI kp
            have hq := crN_le hI kp
            have HCR : Hid ((crS s kp).ns = s.ns.take (crN s kp)) := cr1
            have HC2 : Hid ((crS s kp).ns.length = crN s kp) := cr2
            have HC3 : Hid ((crS s kp).bs.length = 4 * crN s kp) := cr3
            have HC4 : Hid ((crS s kp).sf = 4 * crN s kp) := cr4
            have hbl := hI.bl
            have hsl : s.sf ≤ s.bs.length := by rw [s.bs_length]; have := hI.sl; omega
            have HE0 : Hid (hiN s kp = s.sf + (min (max kp 0) ((s.bs.length : Int) - (s.sf : Int))).toNat) := rfl
            have HEQ : Hid (crN s kp = hiN s kp / 4) := hiN_cr s kp
            have HFT : Hid (Fit s.ns) := hI.fit
            have HN0 := HNS.out
            clear cr1 cr2 cr3 cr4 hI
            generalize hbe : s.bs.length = bl at *
            generalize hse : s.sf = sf at *
            generalize hEe : hiN s kp = E at *
            generalize hqe : crN s kp = q at *
            generalize hce : crS s kp = s5 at *
            clear hbe hse hEe hqe hce
            go_upto_region 59 with (first | (go_at_call 13; refine hby.mono ?_; rintro e w3 ⟨rfl, hw3⟩; obtain rfl := hw3.symm) | (go_at_call 12; refine hsa.mono ?_; rintro e w4 ⟨rfl, hw4⟩; obtain rfl := hw4.symm) | (go_at_call 10; refine hcr.mono ?_; rintro e w5 ⟨⟨v, rfl⟩, hk5⟩))
            clear hby hsa hcr
            refine wp_cut (fun a' wx => ∃  (v295 : Value), Fr11 a' (.slice a0 l0 c0) (.slice a1 l1 c1) (.slice a2 l2 c2) (.slice a3 l3 c3) (.pointer (some ⟨lb, 0, none⟩)) vd vm (.int .i64 (ta : Int)) (.int .i64 (r : Int)) (.int .i64 kp) (.int .i64 (bl : Int)) (.int .i64 (sf : Int)) (.int .i64 (sf : Int)) v295 ∧ v295 = .bool (decide (0 < kp ∧ kp < (bl : Int) - (sf : Int))) ∧ wx = w5) ?rest ?first
            case first =>
              intro _ _ _ _
              clear HK hk5
              by_cases p1 : 0 < kp
              · by_cases p2 : kp < (bl : Int) - (sf : Int)
                · have HE : Hid (decide (0 < kp ∧ kp < (bl : Int) - (sf : Int)) = true) := decide_eq_true ⟨p1, p2⟩
                  go_wp2_with fail
                  refine Met.intro ?_
                  go_step
                  exact ⟨_, ⟨rfl, rfl, rfl, rfl, rfl, rfl, rfl, rfl, rfl, rfl, rfl, rfl, rfl, rfl, rfl, rfl⟩, by rw [HE.out], rfl⟩
                · have HE : Hid (decide (0 < kp ∧ kp < (bl : Int) - (sf : Int)) = false) := decide_eq_false (fun h => p2 h.2)
                  go_wp2_with fail
                  refine Met.intro ?_
                  go_step
                  exact ⟨_, ⟨rfl, rfl, rfl, rfl, rfl, rfl, rfl, rfl, rfl, rfl, rfl, rfl, rfl, rfl, rfl, rfl⟩, by rw [HE.out], rfl⟩
              · have HE : Hid (decide (0 < kp ∧ kp < (bl : Int) - (sf : Int)) = false) := decide_eq_false (fun h => p1 h.1)
                go_wp2_with fail
                refine Met.intro ?_
                go_step
                exact ⟨_, ⟨rfl, rfl, rfl, rfl, rfl, rfl, rfl, rfl, rfl, rfl, rfl, rfl, rfl, rfl, rfl, rfl⟩, by rw [HE.out], rfl⟩
            case rest =>
            intro _ w6 hcut
            obtain ⟨_, hF, rfl, hwx⟩ := hcut
            obtain ⟨g, rfl⟩ := hF.open'
            clear hF
            (try dsimp only)
            subst hwx
            go_upto_if 295 with fail
            refine wp_cut (fun a' wx => ∃  (v37 : Value), Fr12 a' (.slice a0 l0 c0) (.slice a1 l1 c1) (.slice a2 l2 c2) (.slice a3 l3 c3) (.pointer (some ⟨lb, 0, none⟩)) vd vm (.int .i64 (ta : Int)) (.int .i64 (r : Int)) v37 ∧ v37 = .int .i64 (E : Int) ∧ wx = w6) ?rest ?first
            case first =>
              intro _ _ _ _
              clear HK hk5
              have hE0 := HE0.out
              by_cases p1 : 0 < kp
              · by_cases p2 : kp < (bl : Int) - (sf : Int)
                · rw [decide_eq_true ⟨p1, p2⟩]
                  have HE : Hid ((sf : Int) + kp = (E : Int)) := by show (sf : Int) + kp = (E : Int); omega
                  clear hE0
                  go_wp2_with fail
                  refine Met.intro ?_
                  go_step
                  exact ⟨_, ⟨rfl, rfl, rfl, rfl, rfl, rfl, rfl, rfl, rfl, rfl, rfl, rfl⟩, by rw [HE.out], rfl⟩
                · rw [decide_eq_false (fun h => p2 h.2)]
                  have HE : Hid ((bl : Int) = (E : Int)) := by show (bl : Int) = (E : Int); omega
                  clear hE0
                  go_wp2_with fail
                  refine Met.intro ?_
                  go_step
                  exact ⟨_, ⟨rfl, rfl, rfl, rfl, rfl, rfl, rfl, rfl, rfl, rfl, rfl, rfl⟩, by rw [HE.out], rfl⟩
              · rw [decide_eq_false (fun h => p1 h.1)]
                have HE : Hid ((sf : Int) = (E : Int)) := by show (sf : Int) = (E : Int); omega
                clear hE0
                go_wp2_with fail
                refine Met.intro ?_
                go_step
                exact ⟨_, ⟨rfl, rfl, rfl, rfl, rfl, rfl, rfl, rfl, rfl, rfl, rfl, rfl⟩, by rw [HE.out], rfl⟩
            case rest =>
            intro _ w7 hcut
            obtain ⟨_, hF, rfl, hwx⟩ := hcut
            obtain ⟨g, rfl⟩ := hF.open'
            clear hF
            (try dsimp only)
            subst hwx
            obtain ⟨gd, cd, hvd, hcd, hcm1, hcc, hgd, hul⟩ := Kq.shD hk5
            obtain ⟨gm, cm, hvm, hcm2, hcm3, hmc, hgm⟩ := Kq.shM hk5 (by omega)
            have HMC : Hid (∀ j, j < s.ns.length + 1 → w7.cell? ⟨gm, j, none⟩ = some (.int .i64 ((4 * j : Nat) : Int))) := hmc
            obtain ⟨au, cu, hua⟩ := Kq.shU hk5 (i := q) hq
            have xd := hcc q (by omega)
            rw [hua] at xd
            have HRU : Hid (Row w7 (.slice au (rgN (s.ns.take q)).length cu) (rgN (s.ns.take q))) := by
              have h := Kq.rowAt hk5 (i := q) hq HFT.out
              rw [hua] at h
              exact h
            have xm := hmc q (by omega)
            subst hvd hvm
            generalize hlu : (rgN (s.ns.take q)).length = lu at xd HRU
            clear hlu hcc hmc hua
            obtain ⟨Q1, hQ1⟩ : ∃ Q1, Q1 = q + 1 := ⟨_, rfl⟩
            have hk8 := Kq.cut hk5 (l := q) hq rfl
            rw [← hQ1] at hk8
            have HK8 : Hid (KL w w7 lb (.slice (some ⟨gd, 0, none⟩) Q1 cd) (.slice (some ⟨gm, 0, none⟩) Q1 cm) (us.take Q1) s5) := by
              show Kq w w7 lb _ _ _ _ s5.ns (s5.ns.length + 1) [] s5
              rw [HC2.out, ← hQ1, HCR.out]
              exact hk8
            have hps := fun W => run_preS (some ⟨gd, 0, none⟩) us.length cd q (by omega) W
            have hpi := fun W => run_preI (some ⟨gm, 0, none⟩) (s.ns.length + 1) cm q (by omega) W
            rw [← hQ1] at hps hpi
            clear hk5 hk8 HK
            generalize hNL : s.ns.length = NL at *
            generalize hLL : us.length = LL at *
            obtain ⟨MM, hMM⟩ : ∃ MM, NL + 1 = MM := ⟨_, rfl⟩
            rw [hMM] at hpi ⊢
            have HMM : Hid (NL + 1 = MM) := hMM
            have hMb : (MM : Int) ≤ 1000 := by have := HKK.out; omega
            have HQM : Hid (q < MM) := by show q < MM; omega
            have HQE : Hid (q = E / 4) := HEQ.out
            have HQQ : Hid (Q1 = q + 1) := hQ1
            have HQN : Hid (q ≤ 12 * r + 12) := by show q ≤ _; have := HKK.out; omega
            have hq1 : (q : Int) + 1 = (Q1 : Int) := by omega
            have hq2 : (q : Int) < (Q1 : Int) := by omega
            have hq3 : (0 : Int) ≤ (q : Int) := by omega
            have hq4 : (q : Int) ≤ 1000 := by omega
            rw [hq1] at hps hpi
            clear hMM hQ1 hNL hLL HN0 hul hcd hcm1 hcm2 hcm3 hq
            go_wp2_with fail
            refine wp_loop_ghost_k (fun gi a' wx => ∃ (i : Nat) (v38 v39 : Value), Hid (gi + i = MM) ∧ Fr9 a' (.slice a0 l0 c0) (.slice a1 l1 c1) (.slice a2 l2 c2) (.slice a3 l3 c3) (.pointer (some ⟨lb, 0, none⟩)) (.slice (some ⟨gd, 0, none⟩) LL cd) (.slice (some ⟨gm, 0, none⟩) MM cm) (.int .i64 (ta : Int)) (.int .i64 (r : Int)) (.int .i64 (E : Int)) v38 v39 ∧ v38 = .int .i64 ((min (i - 1) q : Nat) : Int) ∧ v39 = .int .i64 (i : Int) ∧ wx = w7) MM ?atStart2 ?round2
            case atStart2 => exact ⟨0, _, _, rfl, ⟨rfl, rfl, rfl, rfl, rfl, rfl, rfl, rfl, rfl, rfl, rfl, rfl, rfl, rfl⟩, (by simp), rfl, rfl⟩
            case round2 =>
              intro gi _ wx hinv
              obtain ⟨i, _, _, HI, hF, rfl, rfl, hwx⟩ := hinv
              obtain ⟨g, rfl⟩ := hF.open'
              clear hF
              subst hwx
              intro _ _ _ _
              (try dsimp only)
              by_cases hi : (i : Int) < (MM : Int)
              · have y1 := HMC.out i (by have := HMM.out; omega)
                have HY : Hid (4 * i = 4 * i) := rfl
                obtain ⟨y, hy⟩ : ∃ y, 4 * i = y := ⟨_, rfl⟩
                rw [hy] at y1
                have HYI : Hid (4 * i = y) := hy
                clear hy
                have hi0 : (0 : Int) ≤ (i : Int) := by omega
                by_cases hle : (y : Int) ≤ (E : Int)
                · have HMN : Hid (min (i + 1 - 1) q = i) := by show _ = _; have := HYI.out; have := HQE.out; omega
                  clear xd xm hps hpi
                  generalize min (i - 1) q = lf at *
                  go_wp2_with fail
                  refine Handed.intro (MM - (i + 1)) (by have := HI.out; omega) ?_
                  go_step
                  exact ⟨i + 1, _, _, by show _ = _; have := HI.out; omega, ⟨rfl, rfl, rfl, rfl, rfl, rfl, rfl, rfl, rfl, rfl, rfl, rfl, rfl, rfl⟩, by rw [HMN.out], by go_num, rfl⟩
                · have HMN : Hid (min (i + 1 - 1) q = min (i - 1) q) := by show _ = _; have := HYI.out; have := HQE.out; omega
                  clear xd xm hps hpi
                  generalize hlf : min (i - 1) q = lf at HMN ⊢
                  clear hlf
                  go_wp2_with fail
                  refine Handed.intro (MM - (i + 1)) (by have := HI.out; omega) ?_
                  go_step
                  exact ⟨i + 1, _, _, by show _ = _; have := HI.out; omega, ⟨rfl, rfl, rfl, rfl, rfl, rfl, rfl, rfl, rfl, rfl, rfl, rfl, rfl, rfl⟩, by rw [HMN.out], by go_num, rfl⟩
              · have hmq : min (i - 1) q = q := by have := HI.out; have := HQM.out; omega
                rw [hmq]
                clear hmq
                generalize wx = wr at *
                have bD : Below wr.heap.size wr wr.drew := ⟨rfl, rfl, rfl, Nat.le_refl _, fun _ _ => rfl⟩
                have hall := k_all (Kq.below HK8.out bD)
                have HR0 : Hid (∀ X, Below wr.heap.size wr X → Row X (.slice au lu cu) (rgN s5.ns)) := by
                  show ∀ X, _ → _
                  intro X hX
                  rw [HCR.out]
                  exact HRU.out.below hX
                have HL12 : Hid ((rgN s5.ns).length ≤ 12) := HK8.out.inv.fit.len
                obtain ⟨yq, hyq⟩ : ∃ yq, 4 * q = yq := ⟨_, rfl⟩
                rw [hyq] at xm
                have HC3' : Hid (s5.bs.length = yq) := by show _ = _; rw [HC3.out, hyq]
                have HC4' : Hid (s5.sf = yq) := by show _ = _; rw [HC4.out, hyq]
                clear hyq
                go_upto_region 71 with fail
                refine wp_cut (fun a' wx => ∃  (v348 : Value), Fr8 a' (.slice a0 l0 c0) (.slice a1 l1 c1) (.slice a2 l2 c2) (.slice a3 l3 c3) (.pointer (some ⟨lb, 0, none⟩)) (.slice (some ⟨gd, 0, none⟩) Q1 cd) (.slice (some ⟨gm, 0, none⟩) Q1 cm) (.int .i64 (ta : Int)) (.int .i64 (r : Int)) v348 ∧ v348 = .bool false ∧ Hid (KL w wx lb (.slice (some ⟨gd, 0, none⟩) Q1 cd) (.slice (some ⟨gm, 0, none⟩) Q1 cm) (us.take Q1) s5)) ?rest3 ?first3
                case first3 =>
                  intro _ _ _ _
                  clear hps hpi
                  go_region_held3 (fun X => X.cell? ⟨gd, q, none⟩ = some (.slice au lu cu) ∧ X.cell? ⟨gm, q, none⟩ = some (.int .i64 (yq : Int))) (go_keep) (first | (go_at_call 14; refine hall.mono ?_; rintro e w11 ⟨v11, rfl, ho11, hk11, hb11⟩; have hB := bD.trans (hb11.mono bD.size); have hr11 := row_of_own ho11 (by have := HL12.out; omega); have hr12 := HR0.out _ hB; have hsm := sameR_eq v11 (.slice au lu cu) (rgN s5.ns) w11 hr11 hr12; obtain ⟨a11, c11, hv11⟩ := ownSh ho11; subst hv11; have z1 := (hB.cell (p := ⟨gd, q, none⟩) hgd).trans xd; have z1' := (hB.cell (p := ⟨gm, q, none⟩) hgm).trans xm; have HK11 : Hid (KL w w11 lb (.slice (some ⟨gd, 0, none⟩) Q1 cd) (.slice (some ⟨gm, 0, none⟩) Q1 cm) (us.take Q1) s5) := hk11; clear hk11 hr11 hr12 ho11) | (go_at_call 18; refine hsm.mono ?_; rintro e w12 ⟨rfl, hb12⟩; have hB2 := hB.trans (hb12.mono hB.size); have z2 := (hB2.cell (p := ⟨gd, q, none⟩) hgd).trans xd; have z2' := (hB2.cell (p := ⟨gm, q, none⟩) hgm).trans xm; have hk12 := Kq.below HK11.out hb12; have hb13 := k_bytes hk12; have hs13 := k_safe hk12; rw [HC3'.out] at hb13; rw [HC4'.out] at hs13; have HK12 : Hid (KL w w12 lb (.slice (some ⟨gd, 0, none⟩) Q1 cd) (.slice (some ⟨gm, 0, none⟩) Q1 cm) (us.take Q1) s5) := hk12; clear hk12) | (go_at_call 13; refine hb13.mono ?_; rintro e w13 ⟨rfl, hw13⟩; obtain rfl := hw13.symm) | (go_at_call 12; refine hs13.mono ?_; rintro e w14 ⟨rfl, hw14⟩; obtain rfl := hw14.symm))
                  all_goals (try go_wp2_with fail)
                  all_goals (refine Met.intro ?_; go_step)
                  all_goals exact ⟨_, ⟨rfl, rfl, rfl, rfl, rfl, rfl, rfl, rfl, rfl, rfl, rfl, rfl⟩, rfl, HK12⟩
                case rest3 =>
                clear hall hps hpi
                intro _ wc hcut
                obtain ⟨_, hF, rfl, HKZ⟩ := hcut
                obtain ⟨g, rfl⟩ := hF.open'
                clear hF
                (try dsimp only)
                clear HK8 xd xm
                go_wp2_with fail
                refine Handed.intro (5 - (r + 1)) (by have := HG.out; omega) ?_
                go_step
                exact ⟨r + 1, ta, s5, _, _, _, _, _, by show _ = _; have := HG.out; omega, ⟨rfl, rfl, rfl, rfl, rfl, rfl, rfl, rfl, rfl, rfl, rfl⟩, rfl, by go_num, (by show s5.ns.length ≤ _; rw [HC2.out]; have := HQN.out; omega), HTA, HKZ⟩
      · go_wp2_with fail
        go_ret
        exact ⟨rfl, HK.out.bel⟩
    · go_wp2_with fail
      go_ret
      exact ⟨rfl, HK.out.bel⟩
end Go.Proofs.YtegelodkopommaaDoor
