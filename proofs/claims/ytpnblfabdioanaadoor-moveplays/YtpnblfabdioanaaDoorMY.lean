/- The walk of the law MovePlays. -/
import Derived.Test.YtpnblfabdioanaaDoorMQ
import Derived.Test.YtpnblfabdioanaaDoorP
import Derived.Deep.CutBlock
namespace Go.Proofs.YtpnblfabdioanaaDoor
open Go.RowKit Go.Lib Go.Sort
set_option linter.unusedVariables false
set_option linter.unusedSimpArgs false
/-- A frame's slots, as a function. -/
theorem frame_open (a : Act) (hs : a.tmps.toList.length = 418) (hd : a.defers = []) : ∃ g : Nat → Value, a = ⟨((List.range 418).map g).toArray, []⟩ ∧ ∀ i v, a.tmps.toList[i]? = some v → g i = v := by
  obtain ⟨tm, df⟩ := a
  simp only at hs hd
  subst hd
  refine ⟨fun i => tm.toList[i]?.getD default, ?_, fun i v h => by simp only at h; simp only [h, Option.getD_some]⟩
  congr 1
  apply Array.toList_inj.1
  apply List.ext_getElem
  · simp only [List.length_map, List.length_range, hs]
  · intro i h1 h2
    simp only [List.getElem_map, List.getElem_range]
    rw [List.getElem?_eq_getElem h1, Option.getD_some]
structure Fr1 (a : Act) (v0 v1 v6 v9 v10 v11 v12 v13 v14 v15 v18 v19 : Value) : Prop where
  sz : a.tmps.toList.length = 418
  df : a.defers = []
  e0 : a.tmps.toList[0]? = some v0
  e1 : a.tmps.toList[1]? = some v1
  e6 : a.tmps.toList[6]? = some v6
  e9 : a.tmps.toList[9]? = some v9
  e10 : a.tmps.toList[10]? = some v10
  e11 : a.tmps.toList[11]? = some v11
  e12 : a.tmps.toList[12]? = some v12
  e13 : a.tmps.toList[13]? = some v13
  e14 : a.tmps.toList[14]? = some v14
  e15 : a.tmps.toList[15]? = some v15
  e18 : a.tmps.toList[18]? = some v18
  e19 : a.tmps.toList[19]? = some v19
set_option maxRecDepth 100000 in
theorem Fr1.open' {a : Act} {v0 v1 v6 v9 v10 v11 v12 v13 v14 v15 v18 v19 : Value} (h : Fr1 a v0 v1 v6 v9 v10 v11 v12 v13 v14 v15 v18 v19) : ∃ g : Nat → Value, a = ⟨#[v0, v1, g 2, g 3, g 4, g 5, v6, g 7, g 8, v9, v10, v11, v12, v13, v14, v15, g 16, g 17, v18, v19, g 20, g 21, g 22, g 23, g 24, g 25, g 26, g 27, g 28, g 29, g 30, g 31, g 32, g 33, g 34, g 35, g 36, g 37, g 38, g 39, g 40, g 41, g 42, g 43, g 44, g 45, g 46, g 47, g 48, g 49, g 50, g 51, g 52, g 53, g 54, g 55, g 56, g 57, g 58, g 59, g 60, g 61, g 62, g 63, g 64, g 65, g 66, g 67, g 68, g 69, g 70, g 71, g 72, g 73, g 74, g 75, g 76, g 77, g 78, g 79, g 80, g 81, g 82, g 83, g 84, g 85, g 86, g 87, g 88, g 89, g 90, g 91, g 92, g 93, g 94, g 95, g 96, g 97, g 98, g 99, g 100, g 101, g 102, g 103, g 104, g 105, g 106, g 107, g 108, g 109, g 110, g 111, g 112, g 113, g 114, g 115, g 116, g 117, g 118, g 119, g 120, g 121, g 122, g 123, g 124, g 125, g 126, g 127, g 128, g 129, g 130, g 131, g 132, g 133, g 134, g 135, g 136, g 137, g 138, g 139, g 140, g 141, g 142, g 143, g 144, g 145, g 146, g 147, g 148, g 149, g 150, g 151, g 152, g 153, g 154, g 155, g 156, g 157, g 158, g 159, g 160, g 161, g 162, g 163, g 164, g 165, g 166, g 167, g 168, g 169, g 170, g 171, g 172, g 173, g 174, g 175, g 176, g 177, g 178, g 179, g 180, g 181, g 182, g 183, g 184, g 185, g 186, g 187, g 188, g 189, g 190, g 191, g 192, g 193, g 194, g 195, g 196, g 197, g 198, g 199, g 200, g 201, g 202, g 203, g 204, g 205, g 206, g 207, g 208, g 209, g 210, g 211, g 212, g 213, g 214, g 215, g 216, g 217, g 218, g 219, g 220, g 221, g 222, g 223, g 224, g 225, g 226, g 227, g 228, g 229, g 230, g 231, g 232, g 233, g 234, g 235, g 236, g 237, g 238, g 239, g 240, g 241, g 242, g 243, g 244, g 245, g 246, g 247, g 248, g 249, g 250, g 251, g 252, g 253, g 254, g 255, g 256, g 257, g 258, g 259, g 260, g 261, g 262, g 263, g 264, g 265, g 266, g 267, g 268, g 269, g 270, g 271, g 272, g 273, g 274, g 275, g 276, g 277, g 278, g 279, g 280, g 281, g 282, g 283, g 284, g 285, g 286, g 287, g 288, g 289, g 290, g 291, g 292, g 293, g 294, g 295, g 296, g 297, g 298, g 299, g 300, g 301, g 302, g 303, g 304, g 305, g 306, g 307, g 308, g 309, g 310, g 311, g 312, g 313, g 314, g 315, g 316, g 317, g 318, g 319, g 320, g 321, g 322, g 323, g 324, g 325, g 326, g 327, g 328, g 329, g 330, g 331, g 332, g 333, g 334, g 335, g 336, g 337, g 338, g 339, g 340, g 341, g 342, g 343, g 344, g 345, g 346, g 347, g 348, g 349, g 350, g 351, g 352, g 353, g 354, g 355, g 356, g 357, g 358, g 359, g 360, g 361, g 362, g 363, g 364, g 365, g 366, g 367, g 368, g 369, g 370, g 371, g 372, g 373, g 374, g 375, g 376, g 377, g 378, g 379, g 380, g 381, g 382, g 383, g 384, g 385, g 386, g 387, g 388, g 389, g 390, g 391, g 392, g 393, g 394, g 395, g 396, g 397, g 398, g 399, g 400, g 401, g 402, g 403, g 404, g 405, g 406, g 407, g 408, g 409, g 410, g 411, g 412, g 413, g 414, g 415, g 416, g 417], []⟩ := by
  obtain ⟨g, rfl, hg⟩ := frame_open a h.sz h.df
  obtain rfl := hg 0 _ h.e0
  obtain rfl := hg 1 _ h.e1
  obtain rfl := hg 6 _ h.e6
  obtain rfl := hg 9 _ h.e9
  obtain rfl := hg 10 _ h.e10
  obtain rfl := hg 11 _ h.e11
  obtain rfl := hg 12 _ h.e12
  obtain rfl := hg 13 _ h.e13
  obtain rfl := hg 14 _ h.e14
  obtain rfl := hg 15 _ h.e15
  obtain rfl := hg 18 _ h.e18
  obtain rfl := hg 19 _ h.e19
  exact ⟨g, rfl⟩
structure Fr2 (a : Act) (v0 v1 v6 v9 v10 v11 v12 v13 v14 v15 v20 v21 : Value) : Prop where
  sz : a.tmps.toList.length = 418
  df : a.defers = []
  e0 : a.tmps.toList[0]? = some v0
  e1 : a.tmps.toList[1]? = some v1
  e6 : a.tmps.toList[6]? = some v6
  e9 : a.tmps.toList[9]? = some v9
  e10 : a.tmps.toList[10]? = some v10
  e11 : a.tmps.toList[11]? = some v11
  e12 : a.tmps.toList[12]? = some v12
  e13 : a.tmps.toList[13]? = some v13
  e14 : a.tmps.toList[14]? = some v14
  e15 : a.tmps.toList[15]? = some v15
  e20 : a.tmps.toList[20]? = some v20
  e21 : a.tmps.toList[21]? = some v21
set_option maxRecDepth 100000 in
theorem Fr2.open' {a : Act} {v0 v1 v6 v9 v10 v11 v12 v13 v14 v15 v20 v21 : Value} (h : Fr2 a v0 v1 v6 v9 v10 v11 v12 v13 v14 v15 v20 v21) : ∃ g : Nat → Value, a = ⟨#[v0, v1, g 2, g 3, g 4, g 5, v6, g 7, g 8, v9, v10, v11, v12, v13, v14, v15, g 16, g 17, g 18, g 19, v20, v21, g 22, g 23, g 24, g 25, g 26, g 27, g 28, g 29, g 30, g 31, g 32, g 33, g 34, g 35, g 36, g 37, g 38, g 39, g 40, g 41, g 42, g 43, g 44, g 45, g 46, g 47, g 48, g 49, g 50, g 51, g 52, g 53, g 54, g 55, g 56, g 57, g 58, g 59, g 60, g 61, g 62, g 63, g 64, g 65, g 66, g 67, g 68, g 69, g 70, g 71, g 72, g 73, g 74, g 75, g 76, g 77, g 78, g 79, g 80, g 81, g 82, g 83, g 84, g 85, g 86, g 87, g 88, g 89, g 90, g 91, g 92, g 93, g 94, g 95, g 96, g 97, g 98, g 99, g 100, g 101, g 102, g 103, g 104, g 105, g 106, g 107, g 108, g 109, g 110, g 111, g 112, g 113, g 114, g 115, g 116, g 117, g 118, g 119, g 120, g 121, g 122, g 123, g 124, g 125, g 126, g 127, g 128, g 129, g 130, g 131, g 132, g 133, g 134, g 135, g 136, g 137, g 138, g 139, g 140, g 141, g 142, g 143, g 144, g 145, g 146, g 147, g 148, g 149, g 150, g 151, g 152, g 153, g 154, g 155, g 156, g 157, g 158, g 159, g 160, g 161, g 162, g 163, g 164, g 165, g 166, g 167, g 168, g 169, g 170, g 171, g 172, g 173, g 174, g 175, g 176, g 177, g 178, g 179, g 180, g 181, g 182, g 183, g 184, g 185, g 186, g 187, g 188, g 189, g 190, g 191, g 192, g 193, g 194, g 195, g 196, g 197, g 198, g 199, g 200, g 201, g 202, g 203, g 204, g 205, g 206, g 207, g 208, g 209, g 210, g 211, g 212, g 213, g 214, g 215, g 216, g 217, g 218, g 219, g 220, g 221, g 222, g 223, g 224, g 225, g 226, g 227, g 228, g 229, g 230, g 231, g 232, g 233, g 234, g 235, g 236, g 237, g 238, g 239, g 240, g 241, g 242, g 243, g 244, g 245, g 246, g 247, g 248, g 249, g 250, g 251, g 252, g 253, g 254, g 255, g 256, g 257, g 258, g 259, g 260, g 261, g 262, g 263, g 264, g 265, g 266, g 267, g 268, g 269, g 270, g 271, g 272, g 273, g 274, g 275, g 276, g 277, g 278, g 279, g 280, g 281, g 282, g 283, g 284, g 285, g 286, g 287, g 288, g 289, g 290, g 291, g 292, g 293, g 294, g 295, g 296, g 297, g 298, g 299, g 300, g 301, g 302, g 303, g 304, g 305, g 306, g 307, g 308, g 309, g 310, g 311, g 312, g 313, g 314, g 315, g 316, g 317, g 318, g 319, g 320, g 321, g 322, g 323, g 324, g 325, g 326, g 327, g 328, g 329, g 330, g 331, g 332, g 333, g 334, g 335, g 336, g 337, g 338, g 339, g 340, g 341, g 342, g 343, g 344, g 345, g 346, g 347, g 348, g 349, g 350, g 351, g 352, g 353, g 354, g 355, g 356, g 357, g 358, g 359, g 360, g 361, g 362, g 363, g 364, g 365, g 366, g 367, g 368, g 369, g 370, g 371, g 372, g 373, g 374, g 375, g 376, g 377, g 378, g 379, g 380, g 381, g 382, g 383, g 384, g 385, g 386, g 387, g 388, g 389, g 390, g 391, g 392, g 393, g 394, g 395, g 396, g 397, g 398, g 399, g 400, g 401, g 402, g 403, g 404, g 405, g 406, g 407, g 408, g 409, g 410, g 411, g 412, g 413, g 414, g 415, g 416, g 417], []⟩ := by
  obtain ⟨g, rfl, hg⟩ := frame_open a h.sz h.df
  obtain rfl := hg 0 _ h.e0
  obtain rfl := hg 1 _ h.e1
  obtain rfl := hg 6 _ h.e6
  obtain rfl := hg 9 _ h.e9
  obtain rfl := hg 10 _ h.e10
  obtain rfl := hg 11 _ h.e11
  obtain rfl := hg 12 _ h.e12
  obtain rfl := hg 13 _ h.e13
  obtain rfl := hg 14 _ h.e14
  obtain rfl := hg 15 _ h.e15
  obtain rfl := hg 20 _ h.e20
  obtain rfl := hg 21 _ h.e21
  exact ⟨g, rfl⟩
structure Fr3 (a : Act) (v0 v1 v5 v6 v9 v10 v11 v12 v13 v14 v15 v17 v26 v27 v117 : Value) : Prop where
  sz : a.tmps.toList.length = 418
  df : a.defers = []
  e0 : a.tmps.toList[0]? = some v0
  e1 : a.tmps.toList[1]? = some v1
  e5 : a.tmps.toList[5]? = some v5
  e6 : a.tmps.toList[6]? = some v6
  e9 : a.tmps.toList[9]? = some v9
  e10 : a.tmps.toList[10]? = some v10
  e11 : a.tmps.toList[11]? = some v11
  e12 : a.tmps.toList[12]? = some v12
  e13 : a.tmps.toList[13]? = some v13
  e14 : a.tmps.toList[14]? = some v14
  e15 : a.tmps.toList[15]? = some v15
  e17 : a.tmps.toList[17]? = some v17
  e26 : a.tmps.toList[26]? = some v26
  e27 : a.tmps.toList[27]? = some v27
  e117 : a.tmps.toList[117]? = some v117
set_option maxRecDepth 100000 in
theorem Fr3.open' {a : Act} {v0 v1 v5 v6 v9 v10 v11 v12 v13 v14 v15 v17 v26 v27 v117 : Value} (h : Fr3 a v0 v1 v5 v6 v9 v10 v11 v12 v13 v14 v15 v17 v26 v27 v117) : ∃ g : Nat → Value, a = ⟨#[v0, v1, g 2, g 3, g 4, v5, v6, g 7, g 8, v9, v10, v11, v12, v13, v14, v15, g 16, v17, g 18, g 19, g 20, g 21, g 22, g 23, g 24, g 25, v26, v27, g 28, g 29, g 30, g 31, g 32, g 33, g 34, g 35, g 36, g 37, g 38, g 39, g 40, g 41, g 42, g 43, g 44, g 45, g 46, g 47, g 48, g 49, g 50, g 51, g 52, g 53, g 54, g 55, g 56, g 57, g 58, g 59, g 60, g 61, g 62, g 63, g 64, g 65, g 66, g 67, g 68, g 69, g 70, g 71, g 72, g 73, g 74, g 75, g 76, g 77, g 78, g 79, g 80, g 81, g 82, g 83, g 84, g 85, g 86, g 87, g 88, g 89, g 90, g 91, g 92, g 93, g 94, g 95, g 96, g 97, g 98, g 99, g 100, g 101, g 102, g 103, g 104, g 105, g 106, g 107, g 108, g 109, g 110, g 111, g 112, g 113, g 114, g 115, g 116, v117, g 118, g 119, g 120, g 121, g 122, g 123, g 124, g 125, g 126, g 127, g 128, g 129, g 130, g 131, g 132, g 133, g 134, g 135, g 136, g 137, g 138, g 139, g 140, g 141, g 142, g 143, g 144, g 145, g 146, g 147, g 148, g 149, g 150, g 151, g 152, g 153, g 154, g 155, g 156, g 157, g 158, g 159, g 160, g 161, g 162, g 163, g 164, g 165, g 166, g 167, g 168, g 169, g 170, g 171, g 172, g 173, g 174, g 175, g 176, g 177, g 178, g 179, g 180, g 181, g 182, g 183, g 184, g 185, g 186, g 187, g 188, g 189, g 190, g 191, g 192, g 193, g 194, g 195, g 196, g 197, g 198, g 199, g 200, g 201, g 202, g 203, g 204, g 205, g 206, g 207, g 208, g 209, g 210, g 211, g 212, g 213, g 214, g 215, g 216, g 217, g 218, g 219, g 220, g 221, g 222, g 223, g 224, g 225, g 226, g 227, g 228, g 229, g 230, g 231, g 232, g 233, g 234, g 235, g 236, g 237, g 238, g 239, g 240, g 241, g 242, g 243, g 244, g 245, g 246, g 247, g 248, g 249, g 250, g 251, g 252, g 253, g 254, g 255, g 256, g 257, g 258, g 259, g 260, g 261, g 262, g 263, g 264, g 265, g 266, g 267, g 268, g 269, g 270, g 271, g 272, g 273, g 274, g 275, g 276, g 277, g 278, g 279, g 280, g 281, g 282, g 283, g 284, g 285, g 286, g 287, g 288, g 289, g 290, g 291, g 292, g 293, g 294, g 295, g 296, g 297, g 298, g 299, g 300, g 301, g 302, g 303, g 304, g 305, g 306, g 307, g 308, g 309, g 310, g 311, g 312, g 313, g 314, g 315, g 316, g 317, g 318, g 319, g 320, g 321, g 322, g 323, g 324, g 325, g 326, g 327, g 328, g 329, g 330, g 331, g 332, g 333, g 334, g 335, g 336, g 337, g 338, g 339, g 340, g 341, g 342, g 343, g 344, g 345, g 346, g 347, g 348, g 349, g 350, g 351, g 352, g 353, g 354, g 355, g 356, g 357, g 358, g 359, g 360, g 361, g 362, g 363, g 364, g 365, g 366, g 367, g 368, g 369, g 370, g 371, g 372, g 373, g 374, g 375, g 376, g 377, g 378, g 379, g 380, g 381, g 382, g 383, g 384, g 385, g 386, g 387, g 388, g 389, g 390, g 391, g 392, g 393, g 394, g 395, g 396, g 397, g 398, g 399, g 400, g 401, g 402, g 403, g 404, g 405, g 406, g 407, g 408, g 409, g 410, g 411, g 412, g 413, g 414, g 415, g 416, g 417], []⟩ := by
  obtain ⟨g, rfl, hg⟩ := frame_open a h.sz h.df
  obtain rfl := hg 0 _ h.e0
  obtain rfl := hg 1 _ h.e1
  obtain rfl := hg 5 _ h.e5
  obtain rfl := hg 6 _ h.e6
  obtain rfl := hg 9 _ h.e9
  obtain rfl := hg 10 _ h.e10
  obtain rfl := hg 11 _ h.e11
  obtain rfl := hg 12 _ h.e12
  obtain rfl := hg 13 _ h.e13
  obtain rfl := hg 14 _ h.e14
  obtain rfl := hg 15 _ h.e15
  obtain rfl := hg 17 _ h.e17
  obtain rfl := hg 26 _ h.e26
  obtain rfl := hg 27 _ h.e27
  obtain rfl := hg 117 _ h.e117
  exact ⟨g, rfl⟩
structure Fr4 (a : Act) (v0 v1 v5 v6 v9 v10 v11 v12 v13 v14 v15 v17 v26 v27 : Value) : Prop where
  sz : a.tmps.toList.length = 418
  df : a.defers = []
  e0 : a.tmps.toList[0]? = some v0
  e1 : a.tmps.toList[1]? = some v1
  e5 : a.tmps.toList[5]? = some v5
  e6 : a.tmps.toList[6]? = some v6
  e9 : a.tmps.toList[9]? = some v9
  e10 : a.tmps.toList[10]? = some v10
  e11 : a.tmps.toList[11]? = some v11
  e12 : a.tmps.toList[12]? = some v12
  e13 : a.tmps.toList[13]? = some v13
  e14 : a.tmps.toList[14]? = some v14
  e15 : a.tmps.toList[15]? = some v15
  e17 : a.tmps.toList[17]? = some v17
  e26 : a.tmps.toList[26]? = some v26
  e27 : a.tmps.toList[27]? = some v27
set_option maxRecDepth 100000 in
theorem Fr4.open' {a : Act} {v0 v1 v5 v6 v9 v10 v11 v12 v13 v14 v15 v17 v26 v27 : Value} (h : Fr4 a v0 v1 v5 v6 v9 v10 v11 v12 v13 v14 v15 v17 v26 v27) : ∃ g : Nat → Value, a = ⟨#[v0, v1, g 2, g 3, g 4, v5, v6, g 7, g 8, v9, v10, v11, v12, v13, v14, v15, g 16, v17, g 18, g 19, g 20, g 21, g 22, g 23, g 24, g 25, v26, v27, g 28, g 29, g 30, g 31, g 32, g 33, g 34, g 35, g 36, g 37, g 38, g 39, g 40, g 41, g 42, g 43, g 44, g 45, g 46, g 47, g 48, g 49, g 50, g 51, g 52, g 53, g 54, g 55, g 56, g 57, g 58, g 59, g 60, g 61, g 62, g 63, g 64, g 65, g 66, g 67, g 68, g 69, g 70, g 71, g 72, g 73, g 74, g 75, g 76, g 77, g 78, g 79, g 80, g 81, g 82, g 83, g 84, g 85, g 86, g 87, g 88, g 89, g 90, g 91, g 92, g 93, g 94, g 95, g 96, g 97, g 98, g 99, g 100, g 101, g 102, g 103, g 104, g 105, g 106, g 107, g 108, g 109, g 110, g 111, g 112, g 113, g 114, g 115, g 116, g 117, g 118, g 119, g 120, g 121, g 122, g 123, g 124, g 125, g 126, g 127, g 128, g 129, g 130, g 131, g 132, g 133, g 134, g 135, g 136, g 137, g 138, g 139, g 140, g 141, g 142, g 143, g 144, g 145, g 146, g 147, g 148, g 149, g 150, g 151, g 152, g 153, g 154, g 155, g 156, g 157, g 158, g 159, g 160, g 161, g 162, g 163, g 164, g 165, g 166, g 167, g 168, g 169, g 170, g 171, g 172, g 173, g 174, g 175, g 176, g 177, g 178, g 179, g 180, g 181, g 182, g 183, g 184, g 185, g 186, g 187, g 188, g 189, g 190, g 191, g 192, g 193, g 194, g 195, g 196, g 197, g 198, g 199, g 200, g 201, g 202, g 203, g 204, g 205, g 206, g 207, g 208, g 209, g 210, g 211, g 212, g 213, g 214, g 215, g 216, g 217, g 218, g 219, g 220, g 221, g 222, g 223, g 224, g 225, g 226, g 227, g 228, g 229, g 230, g 231, g 232, g 233, g 234, g 235, g 236, g 237, g 238, g 239, g 240, g 241, g 242, g 243, g 244, g 245, g 246, g 247, g 248, g 249, g 250, g 251, g 252, g 253, g 254, g 255, g 256, g 257, g 258, g 259, g 260, g 261, g 262, g 263, g 264, g 265, g 266, g 267, g 268, g 269, g 270, g 271, g 272, g 273, g 274, g 275, g 276, g 277, g 278, g 279, g 280, g 281, g 282, g 283, g 284, g 285, g 286, g 287, g 288, g 289, g 290, g 291, g 292, g 293, g 294, g 295, g 296, g 297, g 298, g 299, g 300, g 301, g 302, g 303, g 304, g 305, g 306, g 307, g 308, g 309, g 310, g 311, g 312, g 313, g 314, g 315, g 316, g 317, g 318, g 319, g 320, g 321, g 322, g 323, g 324, g 325, g 326, g 327, g 328, g 329, g 330, g 331, g 332, g 333, g 334, g 335, g 336, g 337, g 338, g 339, g 340, g 341, g 342, g 343, g 344, g 345, g 346, g 347, g 348, g 349, g 350, g 351, g 352, g 353, g 354, g 355, g 356, g 357, g 358, g 359, g 360, g 361, g 362, g 363, g 364, g 365, g 366, g 367, g 368, g 369, g 370, g 371, g 372, g 373, g 374, g 375, g 376, g 377, g 378, g 379, g 380, g 381, g 382, g 383, g 384, g 385, g 386, g 387, g 388, g 389, g 390, g 391, g 392, g 393, g 394, g 395, g 396, g 397, g 398, g 399, g 400, g 401, g 402, g 403, g 404, g 405, g 406, g 407, g 408, g 409, g 410, g 411, g 412, g 413, g 414, g 415, g 416, g 417], []⟩ := by
  obtain ⟨g, rfl, hg⟩ := frame_open a h.sz h.df
  obtain rfl := hg 0 _ h.e0
  obtain rfl := hg 1 _ h.e1
  obtain rfl := hg 5 _ h.e5
  obtain rfl := hg 6 _ h.e6
  obtain rfl := hg 9 _ h.e9
  obtain rfl := hg 10 _ h.e10
  obtain rfl := hg 11 _ h.e11
  obtain rfl := hg 12 _ h.e12
  obtain rfl := hg 13 _ h.e13
  obtain rfl := hg 14 _ h.e14
  obtain rfl := hg 15 _ h.e15
  obtain rfl := hg 17 _ h.e17
  obtain rfl := hg 26 _ h.e26
  obtain rfl := hg 27 _ h.e27
  exact ⟨g, rfl⟩
structure Fr5 (a : Act) (v0 v1 v5 v6 v9 v10 v11 v12 v13 v14 v30 v31 v345 : Value) : Prop where
  sz : a.tmps.toList.length = 418
  df : a.defers = []
  e0 : a.tmps.toList[0]? = some v0
  e1 : a.tmps.toList[1]? = some v1
  e5 : a.tmps.toList[5]? = some v5
  e6 : a.tmps.toList[6]? = some v6
  e9 : a.tmps.toList[9]? = some v9
  e10 : a.tmps.toList[10]? = some v10
  e11 : a.tmps.toList[11]? = some v11
  e12 : a.tmps.toList[12]? = some v12
  e13 : a.tmps.toList[13]? = some v13
  e14 : a.tmps.toList[14]? = some v14
  e30 : a.tmps.toList[30]? = some v30
  e31 : a.tmps.toList[31]? = some v31
  e345 : a.tmps.toList[345]? = some v345
set_option maxRecDepth 100000 in
theorem Fr5.open' {a : Act} {v0 v1 v5 v6 v9 v10 v11 v12 v13 v14 v30 v31 v345 : Value} (h : Fr5 a v0 v1 v5 v6 v9 v10 v11 v12 v13 v14 v30 v31 v345) : ∃ g : Nat → Value, a = ⟨#[v0, v1, g 2, g 3, g 4, v5, v6, g 7, g 8, v9, v10, v11, v12, v13, v14, g 15, g 16, g 17, g 18, g 19, g 20, g 21, g 22, g 23, g 24, g 25, g 26, g 27, g 28, g 29, v30, v31, g 32, g 33, g 34, g 35, g 36, g 37, g 38, g 39, g 40, g 41, g 42, g 43, g 44, g 45, g 46, g 47, g 48, g 49, g 50, g 51, g 52, g 53, g 54, g 55, g 56, g 57, g 58, g 59, g 60, g 61, g 62, g 63, g 64, g 65, g 66, g 67, g 68, g 69, g 70, g 71, g 72, g 73, g 74, g 75, g 76, g 77, g 78, g 79, g 80, g 81, g 82, g 83, g 84, g 85, g 86, g 87, g 88, g 89, g 90, g 91, g 92, g 93, g 94, g 95, g 96, g 97, g 98, g 99, g 100, g 101, g 102, g 103, g 104, g 105, g 106, g 107, g 108, g 109, g 110, g 111, g 112, g 113, g 114, g 115, g 116, g 117, g 118, g 119, g 120, g 121, g 122, g 123, g 124, g 125, g 126, g 127, g 128, g 129, g 130, g 131, g 132, g 133, g 134, g 135, g 136, g 137, g 138, g 139, g 140, g 141, g 142, g 143, g 144, g 145, g 146, g 147, g 148, g 149, g 150, g 151, g 152, g 153, g 154, g 155, g 156, g 157, g 158, g 159, g 160, g 161, g 162, g 163, g 164, g 165, g 166, g 167, g 168, g 169, g 170, g 171, g 172, g 173, g 174, g 175, g 176, g 177, g 178, g 179, g 180, g 181, g 182, g 183, g 184, g 185, g 186, g 187, g 188, g 189, g 190, g 191, g 192, g 193, g 194, g 195, g 196, g 197, g 198, g 199, g 200, g 201, g 202, g 203, g 204, g 205, g 206, g 207, g 208, g 209, g 210, g 211, g 212, g 213, g 214, g 215, g 216, g 217, g 218, g 219, g 220, g 221, g 222, g 223, g 224, g 225, g 226, g 227, g 228, g 229, g 230, g 231, g 232, g 233, g 234, g 235, g 236, g 237, g 238, g 239, g 240, g 241, g 242, g 243, g 244, g 245, g 246, g 247, g 248, g 249, g 250, g 251, g 252, g 253, g 254, g 255, g 256, g 257, g 258, g 259, g 260, g 261, g 262, g 263, g 264, g 265, g 266, g 267, g 268, g 269, g 270, g 271, g 272, g 273, g 274, g 275, g 276, g 277, g 278, g 279, g 280, g 281, g 282, g 283, g 284, g 285, g 286, g 287, g 288, g 289, g 290, g 291, g 292, g 293, g 294, g 295, g 296, g 297, g 298, g 299, g 300, g 301, g 302, g 303, g 304, g 305, g 306, g 307, g 308, g 309, g 310, g 311, g 312, g 313, g 314, g 315, g 316, g 317, g 318, g 319, g 320, g 321, g 322, g 323, g 324, g 325, g 326, g 327, g 328, g 329, g 330, g 331, g 332, g 333, g 334, g 335, g 336, g 337, g 338, g 339, g 340, g 341, g 342, g 343, g 344, v345, g 346, g 347, g 348, g 349, g 350, g 351, g 352, g 353, g 354, g 355, g 356, g 357, g 358, g 359, g 360, g 361, g 362, g 363, g 364, g 365, g 366, g 367, g 368, g 369, g 370, g 371, g 372, g 373, g 374, g 375, g 376, g 377, g 378, g 379, g 380, g 381, g 382, g 383, g 384, g 385, g 386, g 387, g 388, g 389, g 390, g 391, g 392, g 393, g 394, g 395, g 396, g 397, g 398, g 399, g 400, g 401, g 402, g 403, g 404, g 405, g 406, g 407, g 408, g 409, g 410, g 411, g 412, g 413, g 414, g 415, g 416, g 417], []⟩ := by
  obtain ⟨g, rfl, hg⟩ := frame_open a h.sz h.df
  obtain rfl := hg 0 _ h.e0
  obtain rfl := hg 1 _ h.e1
  obtain rfl := hg 5 _ h.e5
  obtain rfl := hg 6 _ h.e6
  obtain rfl := hg 9 _ h.e9
  obtain rfl := hg 10 _ h.e10
  obtain rfl := hg 11 _ h.e11
  obtain rfl := hg 12 _ h.e12
  obtain rfl := hg 13 _ h.e13
  obtain rfl := hg 14 _ h.e14
  obtain rfl := hg 30 _ h.e30
  obtain rfl := hg 31 _ h.e31
  obtain rfl := hg 345 _ h.e345
  exact ⟨g, rfl⟩
structure Fr6 (a : Act) (v0 v1 v5 v6 v9 v10 v11 v12 v13 v14 v31 : Value) : Prop where
  sz : a.tmps.toList.length = 418
  df : a.defers = []
  e0 : a.tmps.toList[0]? = some v0
  e1 : a.tmps.toList[1]? = some v1
  e5 : a.tmps.toList[5]? = some v5
  e6 : a.tmps.toList[6]? = some v6
  e9 : a.tmps.toList[9]? = some v9
  e10 : a.tmps.toList[10]? = some v10
  e11 : a.tmps.toList[11]? = some v11
  e12 : a.tmps.toList[12]? = some v12
  e13 : a.tmps.toList[13]? = some v13
  e14 : a.tmps.toList[14]? = some v14
  e31 : a.tmps.toList[31]? = some v31
set_option maxRecDepth 100000 in
theorem Fr6.open' {a : Act} {v0 v1 v5 v6 v9 v10 v11 v12 v13 v14 v31 : Value} (h : Fr6 a v0 v1 v5 v6 v9 v10 v11 v12 v13 v14 v31) : ∃ g : Nat → Value, a = ⟨#[v0, v1, g 2, g 3, g 4, v5, v6, g 7, g 8, v9, v10, v11, v12, v13, v14, g 15, g 16, g 17, g 18, g 19, g 20, g 21, g 22, g 23, g 24, g 25, g 26, g 27, g 28, g 29, g 30, v31, g 32, g 33, g 34, g 35, g 36, g 37, g 38, g 39, g 40, g 41, g 42, g 43, g 44, g 45, g 46, g 47, g 48, g 49, g 50, g 51, g 52, g 53, g 54, g 55, g 56, g 57, g 58, g 59, g 60, g 61, g 62, g 63, g 64, g 65, g 66, g 67, g 68, g 69, g 70, g 71, g 72, g 73, g 74, g 75, g 76, g 77, g 78, g 79, g 80, g 81, g 82, g 83, g 84, g 85, g 86, g 87, g 88, g 89, g 90, g 91, g 92, g 93, g 94, g 95, g 96, g 97, g 98, g 99, g 100, g 101, g 102, g 103, g 104, g 105, g 106, g 107, g 108, g 109, g 110, g 111, g 112, g 113, g 114, g 115, g 116, g 117, g 118, g 119, g 120, g 121, g 122, g 123, g 124, g 125, g 126, g 127, g 128, g 129, g 130, g 131, g 132, g 133, g 134, g 135, g 136, g 137, g 138, g 139, g 140, g 141, g 142, g 143, g 144, g 145, g 146, g 147, g 148, g 149, g 150, g 151, g 152, g 153, g 154, g 155, g 156, g 157, g 158, g 159, g 160, g 161, g 162, g 163, g 164, g 165, g 166, g 167, g 168, g 169, g 170, g 171, g 172, g 173, g 174, g 175, g 176, g 177, g 178, g 179, g 180, g 181, g 182, g 183, g 184, g 185, g 186, g 187, g 188, g 189, g 190, g 191, g 192, g 193, g 194, g 195, g 196, g 197, g 198, g 199, g 200, g 201, g 202, g 203, g 204, g 205, g 206, g 207, g 208, g 209, g 210, g 211, g 212, g 213, g 214, g 215, g 216, g 217, g 218, g 219, g 220, g 221, g 222, g 223, g 224, g 225, g 226, g 227, g 228, g 229, g 230, g 231, g 232, g 233, g 234, g 235, g 236, g 237, g 238, g 239, g 240, g 241, g 242, g 243, g 244, g 245, g 246, g 247, g 248, g 249, g 250, g 251, g 252, g 253, g 254, g 255, g 256, g 257, g 258, g 259, g 260, g 261, g 262, g 263, g 264, g 265, g 266, g 267, g 268, g 269, g 270, g 271, g 272, g 273, g 274, g 275, g 276, g 277, g 278, g 279, g 280, g 281, g 282, g 283, g 284, g 285, g 286, g 287, g 288, g 289, g 290, g 291, g 292, g 293, g 294, g 295, g 296, g 297, g 298, g 299, g 300, g 301, g 302, g 303, g 304, g 305, g 306, g 307, g 308, g 309, g 310, g 311, g 312, g 313, g 314, g 315, g 316, g 317, g 318, g 319, g 320, g 321, g 322, g 323, g 324, g 325, g 326, g 327, g 328, g 329, g 330, g 331, g 332, g 333, g 334, g 335, g 336, g 337, g 338, g 339, g 340, g 341, g 342, g 343, g 344, g 345, g 346, g 347, g 348, g 349, g 350, g 351, g 352, g 353, g 354, g 355, g 356, g 357, g 358, g 359, g 360, g 361, g 362, g 363, g 364, g 365, g 366, g 367, g 368, g 369, g 370, g 371, g 372, g 373, g 374, g 375, g 376, g 377, g 378, g 379, g 380, g 381, g 382, g 383, g 384, g 385, g 386, g 387, g 388, g 389, g 390, g 391, g 392, g 393, g 394, g 395, g 396, g 397, g 398, g 399, g 400, g 401, g 402, g 403, g 404, g 405, g 406, g 407, g 408, g 409, g 410, g 411, g 412, g 413, g 414, g 415, g 416, g 417], []⟩ := by
  obtain ⟨g, rfl, hg⟩ := frame_open a h.sz h.df
  obtain rfl := hg 0 _ h.e0
  obtain rfl := hg 1 _ h.e1
  obtain rfl := hg 5 _ h.e5
  obtain rfl := hg 6 _ h.e6
  obtain rfl := hg 9 _ h.e9
  obtain rfl := hg 10 _ h.e10
  obtain rfl := hg 11 _ h.e11
  obtain rfl := hg 12 _ h.e12
  obtain rfl := hg 13 _ h.e13
  obtain rfl := hg 14 _ h.e14
  obtain rfl := hg 31 _ h.e31
  exact ⟨g, rfl⟩
structure Fr7 (a : Act) (v0 v1 v6 v8 v9 v10 v11 v12 v13 v14 : Value) : Prop where
  sz : a.tmps.toList.length = 418
  df : a.defers = []
  e0 : a.tmps.toList[0]? = some v0
  e1 : a.tmps.toList[1]? = some v1
  e6 : a.tmps.toList[6]? = some v6
  e8 : a.tmps.toList[8]? = some v8
  e9 : a.tmps.toList[9]? = some v9
  e10 : a.tmps.toList[10]? = some v10
  e11 : a.tmps.toList[11]? = some v11
  e12 : a.tmps.toList[12]? = some v12
  e13 : a.tmps.toList[13]? = some v13
  e14 : a.tmps.toList[14]? = some v14
set_option maxRecDepth 100000 in
theorem Fr7.open' {a : Act} {v0 v1 v6 v8 v9 v10 v11 v12 v13 v14 : Value} (h : Fr7 a v0 v1 v6 v8 v9 v10 v11 v12 v13 v14) : ∃ g : Nat → Value, a = ⟨#[v0, v1, g 2, g 3, g 4, g 5, v6, g 7, v8, v9, v10, v11, v12, v13, v14, g 15, g 16, g 17, g 18, g 19, g 20, g 21, g 22, g 23, g 24, g 25, g 26, g 27, g 28, g 29, g 30, g 31, g 32, g 33, g 34, g 35, g 36, g 37, g 38, g 39, g 40, g 41, g 42, g 43, g 44, g 45, g 46, g 47, g 48, g 49, g 50, g 51, g 52, g 53, g 54, g 55, g 56, g 57, g 58, g 59, g 60, g 61, g 62, g 63, g 64, g 65, g 66, g 67, g 68, g 69, g 70, g 71, g 72, g 73, g 74, g 75, g 76, g 77, g 78, g 79, g 80, g 81, g 82, g 83, g 84, g 85, g 86, g 87, g 88, g 89, g 90, g 91, g 92, g 93, g 94, g 95, g 96, g 97, g 98, g 99, g 100, g 101, g 102, g 103, g 104, g 105, g 106, g 107, g 108, g 109, g 110, g 111, g 112, g 113, g 114, g 115, g 116, g 117, g 118, g 119, g 120, g 121, g 122, g 123, g 124, g 125, g 126, g 127, g 128, g 129, g 130, g 131, g 132, g 133, g 134, g 135, g 136, g 137, g 138, g 139, g 140, g 141, g 142, g 143, g 144, g 145, g 146, g 147, g 148, g 149, g 150, g 151, g 152, g 153, g 154, g 155, g 156, g 157, g 158, g 159, g 160, g 161, g 162, g 163, g 164, g 165, g 166, g 167, g 168, g 169, g 170, g 171, g 172, g 173, g 174, g 175, g 176, g 177, g 178, g 179, g 180, g 181, g 182, g 183, g 184, g 185, g 186, g 187, g 188, g 189, g 190, g 191, g 192, g 193, g 194, g 195, g 196, g 197, g 198, g 199, g 200, g 201, g 202, g 203, g 204, g 205, g 206, g 207, g 208, g 209, g 210, g 211, g 212, g 213, g 214, g 215, g 216, g 217, g 218, g 219, g 220, g 221, g 222, g 223, g 224, g 225, g 226, g 227, g 228, g 229, g 230, g 231, g 232, g 233, g 234, g 235, g 236, g 237, g 238, g 239, g 240, g 241, g 242, g 243, g 244, g 245, g 246, g 247, g 248, g 249, g 250, g 251, g 252, g 253, g 254, g 255, g 256, g 257, g 258, g 259, g 260, g 261, g 262, g 263, g 264, g 265, g 266, g 267, g 268, g 269, g 270, g 271, g 272, g 273, g 274, g 275, g 276, g 277, g 278, g 279, g 280, g 281, g 282, g 283, g 284, g 285, g 286, g 287, g 288, g 289, g 290, g 291, g 292, g 293, g 294, g 295, g 296, g 297, g 298, g 299, g 300, g 301, g 302, g 303, g 304, g 305, g 306, g 307, g 308, g 309, g 310, g 311, g 312, g 313, g 314, g 315, g 316, g 317, g 318, g 319, g 320, g 321, g 322, g 323, g 324, g 325, g 326, g 327, g 328, g 329, g 330, g 331, g 332, g 333, g 334, g 335, g 336, g 337, g 338, g 339, g 340, g 341, g 342, g 343, g 344, g 345, g 346, g 347, g 348, g 349, g 350, g 351, g 352, g 353, g 354, g 355, g 356, g 357, g 358, g 359, g 360, g 361, g 362, g 363, g 364, g 365, g 366, g 367, g 368, g 369, g 370, g 371, g 372, g 373, g 374, g 375, g 376, g 377, g 378, g 379, g 380, g 381, g 382, g 383, g 384, g 385, g 386, g 387, g 388, g 389, g 390, g 391, g 392, g 393, g 394, g 395, g 396, g 397, g 398, g 399, g 400, g 401, g 402, g 403, g 404, g 405, g 406, g 407, g 408, g 409, g 410, g 411, g 412, g 413, g 414, g 415, g 416, g 417], []⟩ := by
  obtain ⟨g, rfl, hg⟩ := frame_open a h.sz h.df
  obtain rfl := hg 0 _ h.e0
  obtain rfl := hg 1 _ h.e1
  obtain rfl := hg 6 _ h.e6
  obtain rfl := hg 8 _ h.e8
  obtain rfl := hg 9 _ h.e9
  obtain rfl := hg 10 _ h.e10
  obtain rfl := hg 11 _ h.e11
  obtain rfl := hg 12 _ h.e12
  obtain rfl := hg 13 _ h.e13
  obtain rfl := hg 14 _ h.e14
  exact ⟨g, rfl⟩
structure Fr8 (a : Act) (v0 v1 v6 v9 v10 v11 v12 v13 v14 : Value) : Prop where
  sz : a.tmps.toList.length = 418
  df : a.defers = []
  e0 : a.tmps.toList[0]? = some v0
  e1 : a.tmps.toList[1]? = some v1
  e6 : a.tmps.toList[6]? = some v6
  e9 : a.tmps.toList[9]? = some v9
  e10 : a.tmps.toList[10]? = some v10
  e11 : a.tmps.toList[11]? = some v11
  e12 : a.tmps.toList[12]? = some v12
  e13 : a.tmps.toList[13]? = some v13
  e14 : a.tmps.toList[14]? = some v14
set_option maxRecDepth 100000 in
theorem Fr8.open' {a : Act} {v0 v1 v6 v9 v10 v11 v12 v13 v14 : Value} (h : Fr8 a v0 v1 v6 v9 v10 v11 v12 v13 v14) : ∃ g : Nat → Value, a = ⟨#[v0, v1, g 2, g 3, g 4, g 5, v6, g 7, g 8, v9, v10, v11, v12, v13, v14, g 15, g 16, g 17, g 18, g 19, g 20, g 21, g 22, g 23, g 24, g 25, g 26, g 27, g 28, g 29, g 30, g 31, g 32, g 33, g 34, g 35, g 36, g 37, g 38, g 39, g 40, g 41, g 42, g 43, g 44, g 45, g 46, g 47, g 48, g 49, g 50, g 51, g 52, g 53, g 54, g 55, g 56, g 57, g 58, g 59, g 60, g 61, g 62, g 63, g 64, g 65, g 66, g 67, g 68, g 69, g 70, g 71, g 72, g 73, g 74, g 75, g 76, g 77, g 78, g 79, g 80, g 81, g 82, g 83, g 84, g 85, g 86, g 87, g 88, g 89, g 90, g 91, g 92, g 93, g 94, g 95, g 96, g 97, g 98, g 99, g 100, g 101, g 102, g 103, g 104, g 105, g 106, g 107, g 108, g 109, g 110, g 111, g 112, g 113, g 114, g 115, g 116, g 117, g 118, g 119, g 120, g 121, g 122, g 123, g 124, g 125, g 126, g 127, g 128, g 129, g 130, g 131, g 132, g 133, g 134, g 135, g 136, g 137, g 138, g 139, g 140, g 141, g 142, g 143, g 144, g 145, g 146, g 147, g 148, g 149, g 150, g 151, g 152, g 153, g 154, g 155, g 156, g 157, g 158, g 159, g 160, g 161, g 162, g 163, g 164, g 165, g 166, g 167, g 168, g 169, g 170, g 171, g 172, g 173, g 174, g 175, g 176, g 177, g 178, g 179, g 180, g 181, g 182, g 183, g 184, g 185, g 186, g 187, g 188, g 189, g 190, g 191, g 192, g 193, g 194, g 195, g 196, g 197, g 198, g 199, g 200, g 201, g 202, g 203, g 204, g 205, g 206, g 207, g 208, g 209, g 210, g 211, g 212, g 213, g 214, g 215, g 216, g 217, g 218, g 219, g 220, g 221, g 222, g 223, g 224, g 225, g 226, g 227, g 228, g 229, g 230, g 231, g 232, g 233, g 234, g 235, g 236, g 237, g 238, g 239, g 240, g 241, g 242, g 243, g 244, g 245, g 246, g 247, g 248, g 249, g 250, g 251, g 252, g 253, g 254, g 255, g 256, g 257, g 258, g 259, g 260, g 261, g 262, g 263, g 264, g 265, g 266, g 267, g 268, g 269, g 270, g 271, g 272, g 273, g 274, g 275, g 276, g 277, g 278, g 279, g 280, g 281, g 282, g 283, g 284, g 285, g 286, g 287, g 288, g 289, g 290, g 291, g 292, g 293, g 294, g 295, g 296, g 297, g 298, g 299, g 300, g 301, g 302, g 303, g 304, g 305, g 306, g 307, g 308, g 309, g 310, g 311, g 312, g 313, g 314, g 315, g 316, g 317, g 318, g 319, g 320, g 321, g 322, g 323, g 324, g 325, g 326, g 327, g 328, g 329, g 330, g 331, g 332, g 333, g 334, g 335, g 336, g 337, g 338, g 339, g 340, g 341, g 342, g 343, g 344, g 345, g 346, g 347, g 348, g 349, g 350, g 351, g 352, g 353, g 354, g 355, g 356, g 357, g 358, g 359, g 360, g 361, g 362, g 363, g 364, g 365, g 366, g 367, g 368, g 369, g 370, g 371, g 372, g 373, g 374, g 375, g 376, g 377, g 378, g 379, g 380, g 381, g 382, g 383, g 384, g 385, g 386, g 387, g 388, g 389, g 390, g 391, g 392, g 393, g 394, g 395, g 396, g 397, g 398, g 399, g 400, g 401, g 402, g 403, g 404, g 405, g 406, g 407, g 408, g 409, g 410, g 411, g 412, g 413, g 414, g 415, g 416, g 417], []⟩ := by
  obtain ⟨g, rfl, hg⟩ := frame_open a h.sz h.df
  obtain rfl := hg 0 _ h.e0
  obtain rfl := hg 1 _ h.e1
  obtain rfl := hg 6 _ h.e6
  obtain rfl := hg 9 _ h.e9
  obtain rfl := hg 10 _ h.e10
  obtain rfl := hg 11 _ h.e11
  obtain rfl := hg 12 _ h.e12
  obtain rfl := hg 13 _ h.e13
  obtain rfl := hg 14 _ h.e14
  exact ⟨g, rfl⟩
structure Fr9 (a : Act) (v0 v1 v6 v9 v10 v11 v12 v13 v14 v15 v17 : Value) : Prop where
  sz : a.tmps.toList.length = 418
  df : a.defers = []
  e0 : a.tmps.toList[0]? = some v0
  e1 : a.tmps.toList[1]? = some v1
  e6 : a.tmps.toList[6]? = some v6
  e9 : a.tmps.toList[9]? = some v9
  e10 : a.tmps.toList[10]? = some v10
  e11 : a.tmps.toList[11]? = some v11
  e12 : a.tmps.toList[12]? = some v12
  e13 : a.tmps.toList[13]? = some v13
  e14 : a.tmps.toList[14]? = some v14
  e15 : a.tmps.toList[15]? = some v15
  e17 : a.tmps.toList[17]? = some v17
set_option maxRecDepth 100000 in
theorem Fr9.open' {a : Act} {v0 v1 v6 v9 v10 v11 v12 v13 v14 v15 v17 : Value} (h : Fr9 a v0 v1 v6 v9 v10 v11 v12 v13 v14 v15 v17) : ∃ g : Nat → Value, a = ⟨#[v0, v1, g 2, g 3, g 4, g 5, v6, g 7, g 8, v9, v10, v11, v12, v13, v14, v15, g 16, v17, g 18, g 19, g 20, g 21, g 22, g 23, g 24, g 25, g 26, g 27, g 28, g 29, g 30, g 31, g 32, g 33, g 34, g 35, g 36, g 37, g 38, g 39, g 40, g 41, g 42, g 43, g 44, g 45, g 46, g 47, g 48, g 49, g 50, g 51, g 52, g 53, g 54, g 55, g 56, g 57, g 58, g 59, g 60, g 61, g 62, g 63, g 64, g 65, g 66, g 67, g 68, g 69, g 70, g 71, g 72, g 73, g 74, g 75, g 76, g 77, g 78, g 79, g 80, g 81, g 82, g 83, g 84, g 85, g 86, g 87, g 88, g 89, g 90, g 91, g 92, g 93, g 94, g 95, g 96, g 97, g 98, g 99, g 100, g 101, g 102, g 103, g 104, g 105, g 106, g 107, g 108, g 109, g 110, g 111, g 112, g 113, g 114, g 115, g 116, g 117, g 118, g 119, g 120, g 121, g 122, g 123, g 124, g 125, g 126, g 127, g 128, g 129, g 130, g 131, g 132, g 133, g 134, g 135, g 136, g 137, g 138, g 139, g 140, g 141, g 142, g 143, g 144, g 145, g 146, g 147, g 148, g 149, g 150, g 151, g 152, g 153, g 154, g 155, g 156, g 157, g 158, g 159, g 160, g 161, g 162, g 163, g 164, g 165, g 166, g 167, g 168, g 169, g 170, g 171, g 172, g 173, g 174, g 175, g 176, g 177, g 178, g 179, g 180, g 181, g 182, g 183, g 184, g 185, g 186, g 187, g 188, g 189, g 190, g 191, g 192, g 193, g 194, g 195, g 196, g 197, g 198, g 199, g 200, g 201, g 202, g 203, g 204, g 205, g 206, g 207, g 208, g 209, g 210, g 211, g 212, g 213, g 214, g 215, g 216, g 217, g 218, g 219, g 220, g 221, g 222, g 223, g 224, g 225, g 226, g 227, g 228, g 229, g 230, g 231, g 232, g 233, g 234, g 235, g 236, g 237, g 238, g 239, g 240, g 241, g 242, g 243, g 244, g 245, g 246, g 247, g 248, g 249, g 250, g 251, g 252, g 253, g 254, g 255, g 256, g 257, g 258, g 259, g 260, g 261, g 262, g 263, g 264, g 265, g 266, g 267, g 268, g 269, g 270, g 271, g 272, g 273, g 274, g 275, g 276, g 277, g 278, g 279, g 280, g 281, g 282, g 283, g 284, g 285, g 286, g 287, g 288, g 289, g 290, g 291, g 292, g 293, g 294, g 295, g 296, g 297, g 298, g 299, g 300, g 301, g 302, g 303, g 304, g 305, g 306, g 307, g 308, g 309, g 310, g 311, g 312, g 313, g 314, g 315, g 316, g 317, g 318, g 319, g 320, g 321, g 322, g 323, g 324, g 325, g 326, g 327, g 328, g 329, g 330, g 331, g 332, g 333, g 334, g 335, g 336, g 337, g 338, g 339, g 340, g 341, g 342, g 343, g 344, g 345, g 346, g 347, g 348, g 349, g 350, g 351, g 352, g 353, g 354, g 355, g 356, g 357, g 358, g 359, g 360, g 361, g 362, g 363, g 364, g 365, g 366, g 367, g 368, g 369, g 370, g 371, g 372, g 373, g 374, g 375, g 376, g 377, g 378, g 379, g 380, g 381, g 382, g 383, g 384, g 385, g 386, g 387, g 388, g 389, g 390, g 391, g 392, g 393, g 394, g 395, g 396, g 397, g 398, g 399, g 400, g 401, g 402, g 403, g 404, g 405, g 406, g 407, g 408, g 409, g 410, g 411, g 412, g 413, g 414, g 415, g 416, g 417], []⟩ := by
  obtain ⟨g, rfl, hg⟩ := frame_open a h.sz h.df
  obtain rfl := hg 0 _ h.e0
  obtain rfl := hg 1 _ h.e1
  obtain rfl := hg 6 _ h.e6
  obtain rfl := hg 9 _ h.e9
  obtain rfl := hg 10 _ h.e10
  obtain rfl := hg 11 _ h.e11
  obtain rfl := hg 12 _ h.e12
  obtain rfl := hg 13 _ h.e13
  obtain rfl := hg 14 _ h.e14
  obtain rfl := hg 15 _ h.e15
  obtain rfl := hg 17 _ h.e17
  exact ⟨g, rfl⟩

theorem Vv.whn {w wr : World} {mb db qb ab V : Nat} {s t : Mv} {ys : Nat → Int} (h : Vv w wr mb db qb ab V s t ys) (i : Int) : Vv w wr mb db qb ab V s { t with wh := i } ys := by
  obtain ⟨FM, FD, FP, ⟨⟨p1, p2, p3, p4, p5, p6, p7, p8, p9⟩, h2, h3, h4⟩⟩ := h
  exact ⟨FM, FD, FP, ⟨⟨p1, p2, p3, ⟨p4.lt, p4.ci, p4.co, p4.ck, p4.fr⟩, p5, p6, p7, p8, p9⟩, h2, h3, h4⟩⟩
set_option maxRecDepth 100000 in
set_option maxHeartbeats 8000000 in
theorem plays_lo (n : Int) (v : Value) (w : World) (hH : Handle w) (c : n < 1) (hb : Ix.limitB n = false) : Calls Tryd.prog 4 #[.int .i64 n, v] w fun e w' => e = .returned (.bool true) ∧ Below w.heap.size w w' := by
  go_enter Tryd.func4, Tryd.ntmps4
  go_wp2_with fail
  refine (mnew_no n _ hb).mono ?_
  rintro e w1 ⟨rfl, rfl⟩
  have c3 := same_err 1 1 w hH
  go_wp2_with fail
  refine c3.mono ?_
  rintro e w2 ⟨rfl, hb2⟩
  go_wp2_with fail
  go_ret
  exact ⟨by simp, hb2⟩
set_option maxRecDepth 100000 in
set_option maxHeartbeats 8000000 in
theorem plays_hi (n : Int) (v : Value) (w : World) (hH : Handle w) (c0 : ¬ n < 1) (c : 8 < n) (hb : Ix.limitB n = false) : Calls Tryd.prog 4 #[.int .i64 n, v] w fun e w' => e = .returned (.bool true) ∧ Below w.heap.size w w' := by
  go_enter Tryd.func4, Tryd.ntmps4
  go_wp2_with fail
  refine (mnew_no n _ hb).mono ?_
  rintro e w1 ⟨rfl, rfl⟩
  have c3 := same_err 1 1 w hH
  go_wp2_with fail
  refine c3.mono ?_
  rintro e w2 ⟨rfl, hb2⟩
  go_wp2_with fail
  go_ret
  exact ⟨by simp, hb2⟩
theorem start_oo {w w1 : World} {mb ib im pb pm : Nat} {iv : Value} {n : Int} (h : MO w1 w.heap.size mb ib im iv pb pm (Mv.start n)) (hb : Below w.heap.size w w1) :
    Oo w (((w1.alloc (.cells #[.int .i64 n, .slice none 0 0, .slice none 0 0] 41)).alloc (.cells #[.slice none 0 0] 45)).alloc (.cells #[.int .i64 0, .int .i64 0, .bool true, .int .i64 0, .int .i64 0, .bool false, .int .i64 0, .int .i64 0, .bool false, .int .i64 0, .int .i64 0, .bool false] 48)) mb w1.heap.size (w1.heap.size + 1) (w1.heap.size + 1 + 1) (Mv.start n) (Mv.start n) := by
  have s1 : (w1.alloc (.cells #[.int .i64 n, .slice none 0 0, .slice none 0 0] 41)).heap.size = w1.heap.size + 1 := by simp
  have s2 : ((w1.alloc (.cells #[.int .i64 n, .slice none 0 0, .slice none 0 0] 41)).alloc (.cells #[.slice none 0 0] 45)).heap.size = w1.heap.size + 1 + 1 := by simp
  have hM : M w1 w.heap.size mb (mown mb ib im iv pb pm) (Mv.start n) := ⟨ib, im, iv, pb, pm, h, rfl⟩
  have hR := Ix.Ref.new w1 w.heap.size hb.size n
  have hQ := Ox.Ref.new (w1.alloc (.cells #[.int .i64 n, .slice none 0 0, .slice none 0 0] 41)) w.heap.size (by rw [s1]; have := hb.size; omega)
  rw [s1] at hQ
  generalize hW1 : w1.alloc (.cells #[.int .i64 n, .slice none 0 0, .slice none 0 0] 41) = W1 at *
  have bl1 : Below w1.heap.size w1 W1 := by rw [← hW1]; exact (Below.refl _ _).alloc (Nat.le_refl _) _
  generalize hW2 : W1.alloc (.cells #[.slice none 0 0] 45) = W2 at *
  have bl2 : Below W1.heap.size W1 W2 := by rw [← hW2]; exact (Below.refl _ _).alloc (Nat.le_refl _) _
  generalize hW3 : W2.alloc (.cells #[.int .i64 0, .int .i64 0, .bool true, .int .i64 0, .int .i64 0, .bool false, .int .i64 0, .int .i64 0, .bool false, .int .i64 0, .int .i64 0, .bool false] 48) = W3
  have bl3 : Below W2.heap.size W2 W3 := by rw [← hW3]; exact (Below.refl _ _).alloc (Nat.le_refl _) _
  have hz := hb.size
  have fd : ∀ k, Ix.rown w1.heap.size (.slice none 0 0) (.slice none 0 0) k → k = w1.heap.size := fun k hk => by
    rcases hk with e | e | e
    · exact e
    · cases e
    · cases e
  have fp : ∀ k, Ox.rown (w1.heap.size + 1) (.slice none 0 0) k → k = w1.heap.size + 1 := fun k hk => by
    rcases hk with e | e
    · exact e
    · cases e
  refine ⟨_, _, _, ⟨((hM.below bl1).below bl2).below bl3, ⟨_, _, [], ((hR.below bl2).below bl3), rfl, rfl, rfl⟩, ⟨_, hQ.below bl3, rfl⟩, ?_, fun k hk => ?_, fun k hk => ?_, fun k hk => ?_, by omega, ((hb.trans (bl1.mono hz)).trans (bl2.mono (by omega))).trans (bl3.mono (by omega))⟩⟩
  · rw [← hW3, ← s2]
    refine ⟨by simp, fun j hj => ?_, fun j hj => ?_, fun j hj => ?_, fun j hj => by simp⟩
    · rcases (show j = 0 ∨ j = 1 ∨ j = 2 ∨ j = 3 by omega) with rfl | rfl | rfl | rfl <;> simp [Mv.start]
    · rcases (show j = 0 ∨ j = 1 ∨ j = 2 ∨ j = 3 by omega) with rfl | rfl | rfl | rfl <;> simp [Mv.start]
    · rcases (show j = 0 ∨ j = 1 ∨ j = 2 ∨ j = 3 by omega) with rfl | rfl | rfl | rfl <;> simp [Mv.start]
  · have := hM.lt hk
    exact ⟨fun e => by have := fd k e; omega, fun e => by have := fp k e; omega, by omega⟩
  · have := fd k hk
    exact ⟨fun e => by have := fp k e; omega, by omega⟩
  · have := fp k hk
    omega
set_option maxRecDepth 100000 in
set_option maxHeartbeats 8000000 in
theorem plays_yes (n : Int) (ao : Option Addr) (len sc : Nat) (w : World) (hH : Handle w) (hb : Ix.limitB n = true) (hS : len = 0 ∨ ∃ b off, ao = some ⟨b, off, none⟩ ∧ Steps w b off len) : Calls Tryd.prog 4 #[.int .i64 n, .slice ao len sc] w fun e w' => e = .returned (.bool true) ∧ Below w.heap.size w w' := by
  have HS : Hid (len = 0 ∨ ∃ b off, ao = some ⟨b, off, none⟩ ∧ Steps w b off len) := hS
  clear hS
  obtain ⟨n1, n8⟩ := Ix.limitB_yes hb
  have n1' : ¬ n < 1 := by omega
  have n8' : ¬ 8 < n := by omega
  go_enter Tryd.func4, Tryd.ntmps4
  go_wp2_with fail
  refine (mnew_yes n _ hb).mono ?_
  rintro e w1 ⟨mb, ib, im, iv, pb, pm, rfl, hO1, hb1⟩
  have c3 := same_nil 0 w1
  go_wp2_with fail
  refine c3.mono ?_
  rintro e w2 ⟨rfl, hb2⟩
  have hE0 := start_oo (hO1.below hb2) (hb1.trans (hb2.mono hb1.size))
  clear c3 hO1 hb1 hb2
  go_wp2_with fail
  generalize w2.heap.size = db at hE0 ⊢
  generalize hqb : db + 1 = qb at hE0 ⊢
  generalize hab : qb + 1 = ab at hE0 ⊢
  clear hqb hab
  generalize ((w2.alloc (.cells #[.int .i64 n, .slice none 0 0, .slice none 0 0] 41)).alloc (.cells #[.slice none 0 0] 45)).alloc (.cells #[.int .i64 0, .int .i64 0, .bool true, .int .i64 0, .int .i64 0, .bool false, .int .i64 0, .int .i64 0, .bool false, .int .i64 0, .int .i64 0, .bool false] 48) = W0 at hE0 ⊢
  refine wp_loop_ghost_k (fun gk a' wr => ∃ (k : Nat) (s : Mv) (bw : Int) (v12 v13 v14 : Value), gk + k = 80 ∧ Fr8 a' (.int .i64 n) (.slice ao len sc) (.pointer (some ⟨mb, 0, none⟩)) (.pointer (some ⟨db, 0, none⟩)) (.pointer (some ⟨qb, 0, none⟩)) (.pointer (some ⟨ab, 0, none⟩)) v12 v13 v14 ∧ v12 = .int .i64 s.wh ∧ v13 = .int .i64 bw ∧ v14 = .int .i64 (k : Int) ∧ Oo w wr mb db qb ab s s ∧ Hid (Bv s bw)) 80 ?atStart ?round
  case atStart => exact ⟨0, Mv.start n, -1, _, _, _, rfl, ⟨rfl, rfl, rfl, rfl, rfl, rfl, rfl, rfl, rfl, rfl, rfl⟩, rfl, rfl, rfl, hE0, .inl rfl⟩
  case round =>
    clear hE0
    intro gk _ wr hinv
    obtain ⟨k, s, bw, _, _, _, hk, hF, rfl, rfl, rfl, hE, HBV⟩ := hinv
    obtain ⟨g, rfl⟩ := hF.open'
    clear hF
    intro _ _ _ _
    (try dsimp only)
    have HK : Hid (gk + k = 80) := hk
    clear hk
    by_cases g1 : (k : Int) < (len : Int)
    · by_cases g2 : (k : Int) < 80
      · obtain ⟨b, off, rfl, hSt⟩ : ∃ b off, ao = some ⟨b, off, none⟩ ∧ Steps w b off len := by
          rcases HS.out with e | e
          · omega
          · exact e
        have hlen : len ≤ 9223372036854775807 := hSt.2.1
        obtain ⟨ar, cr, zs, hcell, hI⟩ := row_at' hSt (Below.refl _ _) (k := k) (by omega)
        have hzl : zs.length ≤ 9223372036854775807 := hI.1
        have HC : Hid (w.cell? ⟨b, off + k, none⟩ = some (.slice ar zs.length cr)) := hcell
        have hbw : b < w.heap.size := hSt.1
        have HI : Hid (Ints w ar zs) := hI
        have HM : Hid (s.ns.length ≤ 100) := hE.inv.many
        have hP0 := hE.new
        clear hSt hcell hI hE
        go_wp2_with fail
        generalize wr.heap.size = V at hP0 ⊢
        generalize wr.alloc (.cells #[.int .i64 0, .int .i64 0, .int .i64 0, .int .i64 0, .int .i64 0] 49) = W1 at hP0 ⊢
        go_loopg [16] 5 (fun gj s16 wr2 => ∃ (j : Nat) (ys : Nat → Int), gj + j = 5 ∧ s16 = .int .i64 j ∧ Vv w wr2 mb db qb ab V s s ys)
        case atStart => exact ⟨0, _, rfl, rfl, hP0⟩
        case round =>
          clear hP0
          obtain ⟨j, ys, hj, rfl, hP⟩ := hrel
          have HJ : Hid (gk + j = 5) := hj
          clear hj
          have rc := (hP.bel.cell (p := ⟨b, off + k, none⟩) hbw).trans HC.out
          by_cases q1 : (j : Int) < (zs.length : Int) ∧ (j : Int) < 5
          · obtain ⟨q1, q2⟩ := q1
            obtain ⟨rb, ro, rfl, hrb, hcj⟩ : ∃ rb ro, ar = some ⟨rb, ro, none⟩ ∧ rb < w.heap.size ∧ ∀ j, j < zs.length → w.cell? ⟨rb, ro + j, none⟩ = some (.int .i64 (iat zs j)) := by
              rcases HI.out.2.2 with e | e
              · rw [e] at q1; simp at q1; omega
              · exact e
            have xj := (hP.bel.cell (p := ⟨rb, ro + j, none⟩) hrb).trans (hcj j (by omega))
            generalize iat zs j = z at xj
            clear hcj
            have hP2 := hP.set (show j < 5 by omega) z
            have vc := hP.box.c j (by omega)
            have vf := hP.box.f j (by omega)
            go_wp2_with fail
            go_roundg (5 - (j + 1))
            case measure => have := HJ.out; omega
            case rel => exact ⟨j + 1, _, by have := HJ.out; omega, by go_num, hP2⟩
          · go_upto_region 19 with fail
            go_cut [86] (fun s86 wx => s86 = .bool false ∧ wx = wr)
            case first =>
              by_cases q2 : (j : Int) < (zs.length : Int)
              · have q3 : ¬ (j : Int) < 5 := fun e => q1 ⟨q2, e⟩
                clear q1
                go_wp2_with fail
                go_meet
                exact ⟨rfl, rfl⟩
              · clear q1
                go_wp2_with fail
                go_meet
                exact ⟨rfl, rfl⟩
            case rest =>
              obtain ⟨rfl, rfl⟩ := hcut
              clear q1 rc HI HJ
              have v0 := hP.box.c 0 (by decide)
              have v1 := hP.box.c 1 (by decide)
              have v2 := hP.box.c 2 (by decide)
              have v3 := hP.box.c 3 (by decide)
              have v4 := hP.box.c 4 (by decide)
              obtain ⟨y0, hy0⟩ : ∃ y, ys 0 = y := ⟨_, rfl⟩
              obtain ⟨y1, hy1⟩ : ∃ y, ys 1 = y := ⟨_, rfl⟩
              obtain ⟨y2, hy2⟩ : ∃ y, ys 2 = y := ⟨_, rfl⟩
              obtain ⟨y3, hy3⟩ : ∃ y, ys 3 = y := ⟨_, rfl⟩
              obtain ⟨y4, hy4⟩ : ∃ y, ys 4 = y := ⟨_, rfl⟩
              rw [hy0] at v0
              rw [hy1] at v1
              rw [hy2] at v2
              rw [hy3] at v3
              rw [hy4] at v4
              have HY1 : Hid (ys 1 = y1) := hy1
              have HY2 : Hid (ys 2 = y2) := hy2
              have HY3 : Hid (ys 3 = y3) := hy3
              have HY4 : Hid (ys 4 = y4) := hy4
              clear hy0 hy1 hy2 hy3 hy4
              go_upto_region 22 with fail
              refine wp_cut (fun a' wx => ∃  (v17 : Value), Fr9 a' (.int .i64 n) (.slice (some ⟨b, off, none⟩) len sc) (.pointer (some ⟨mb, 0, none⟩)) (.pointer (some ⟨db, 0, none⟩)) (.pointer (some ⟨qb, 0, none⟩)) (.pointer (some ⟨ab, 0, none⟩)) (.int .i64 s.wh) (.int .i64 bw) (.int .i64 (k : Int)) (.pointer (some ⟨V, 0, none⟩)) v17 ∧ v17 = .bool (ptB y1) ∧ wx = wc) ?rest1 ?first1
              case first1 =>
                intro _ _ _ _
                clear hP v0 v2 v3 v4
                by_cases p0 : 0 ≤ y1
                · by_cases p3 : y1 ≤ 3
                  · have HE : Hid (ptB y1 = true) := decide_eq_true ⟨p0, p3⟩
                    go_wp2_with fail
                    refine Met.intro ?_
                    go_step
                    exact ⟨_, ⟨rfl, rfl, rfl, rfl, rfl, rfl, rfl, rfl, rfl, rfl, rfl, rfl, rfl⟩, by rw [HE.out], rfl⟩
                  · have HE : Hid (ptB y1 = false) := decide_eq_false (by omega)
                    go_wp2_with fail
                    refine Met.intro ?_
                    go_step
                    exact ⟨_, ⟨rfl, rfl, rfl, rfl, rfl, rfl, rfl, rfl, rfl, rfl, rfl, rfl, rfl⟩, by rw [HE.out], rfl⟩
                · have HE : Hid (ptB y1 = false) := decide_eq_false (by omega)
                  go_wp2_with fail
                  refine Met.intro ?_
                  go_step
                  exact ⟨_, ⟨rfl, rfl, rfl, rfl, rfl, rfl, rfl, rfl, rfl, rfl, rfl, rfl, rfl⟩, by rw [HE.out], rfl⟩
              case rest1 =>
              intro _ wc hcut
              obtain ⟨_, hF, rfl, rfl⟩ := hcut
              obtain ⟨g, rfl⟩ := hF.open'
              clear hF
              (try dsimp only)
              go_upto_block 4 with fail
              refine wp_cut (fun a' wx => ∃ (s2 : Mv) (bw2 : Int) (v8 v12 v13 : Value), Fr7 a' (.int .i64 n) (.slice (some ⟨b, off, none⟩) len sc) (.pointer (some ⟨mb, 0, none⟩)) v8 (.pointer (some ⟨db, 0, none⟩)) (.pointer (some ⟨qb, 0, none⟩)) (.pointer (some ⟨ab, 0, none⟩)) v12 v13 (.int .i64 (k : Int)) ∧ v8 = .bool true ∧ v12 = .int .i64 s2.wh ∧ v13 = .int .i64 bw2 ∧ Oo w wx mb db qb ab s2 s2 ∧ Hid (Bv s2 bw2)) ?rest2 ?first2
              case first2 =>
                intro _ _ _ _
                by_cases s0 : y0 = 0
                · subst s0
                  have c1 := d_issue hP HM.out y1
                  have c2 := fun X (h : Vv w X mb db qb ab V s (offS s y1) ys) => v_offer h y1
                  have c3 := same_errV (issF s y1)
                  have HW : Hid ((offS s y1).wh = s.wh) := (stay_offer s y1).1
                  have HB : Hid (Bv (offS s y1) bw) := HBV.out.stay (stay_offer s y1).2
                  generalize issF s y1 = ff at c1 c2 c3
                  generalize offS s y1 = s2 at c1 c2 HW HB
                  go_wp2_with fail
                  refine c1.mono ?_
                  rintro e w11 ⟨r, rfl, hP11⟩
                  have c4 := c2 _ hP11
                  clear c1 c2 v0 v1 v2 v3 v4
                  have v1 := (hP11.box.c 1 (by decide)).trans (by rw [HY1.out])
                  generalize errV ff = er at c4 c3
                  go_wp2_with fail
                  refine c4.mono ?_
                  rintro e w12 ⟨rfl, hP12⟩
                  clear c4 v1
                  go_wp2_with fail
                  refine (c3 _ (hH.below hP12.bel)).mono ?_
                  rintro e w13 ⟨rfl, hb13⟩
                  clear c3
                  go_wp2_with fail
                  refine Met.intro ?_
                  go_step
                  exact ⟨s2, bw, _, _, _, ⟨rfl, rfl, rfl, rfl, rfl, rfl, rfl, rfl, rfl, rfl, rfl, rfl⟩, rfl, by rw [HW.out], rfl, (hP12.below hb13).oo, HB⟩
                · have b0 : (y0 == 0) = false := by simpa using s0
                  by_cases s1 : y0 = 1
                  · subst s1
                    cases hp : ptB y1 with
                    | false =>
                      have hq := off_path (s := s) y2 0 hp
                      have c2 := v_came hP y1 y2
                      rw [hq.1, hq.2.1, errV_f (by decide)] at c2
                      have c3 := same_err 1 1
                      clear hq
                      go_wp2_with fail
                      refine c2.mono ?_
                      rintro e w12 ⟨rfl, hP12⟩
                      clear c2 v0 v1 v2 v3 v4
                      go_wp2_with fail
                      refine (c3 _ (hH.below hP12.bel)).mono ?_
                      rintro e w13 ⟨rfl, hb13⟩
                      clear c3
                      go_wp2_with fail
                      refine Met.intro ?_
                      go_step
                      exact ⟨s, bw, _, _, _, ⟨rfl, rfl, rfl, rfl, rfl, rfl, rfl, rfl, rfl, rfl, rfl, rfl⟩, rfl, rfl, rfl, (hP12.below hb13).oo, HBV⟩
                    | true =>
                      obtain ⟨j, rfl, hj⟩ := ptB_yes hp
                      have hji : (j : Int) < 4 := by omega
                      have c0 := hP.pa.ci j hj
                      have c0' := hP.pa.co j hj
                      have c0'' := hP.pa.ck j hj
                      have c2 := fun X (t : Mv) (h : Vv w X mb db qb ab V s t ys) => v_came h (j : Int) y2
                      have HD : Hid ((Px.cameF (s.pi j) (s.po j) (s.pk j) y2 = 0 ∧ cmF s (j : Int) y2 = 0 ∧ cmS s (j : Int) y2 = s.setP j (s.pi j + y2) (s.po j) (s.pk j)) ∨ (Px.cameF (s.pi j) (s.po j) (s.pk j) y2 ≠ 0 ∧ cmF s (j : Int) y2 = Px.cameF (s.pi j) (s.po j) (s.pk j) y2 ∧ cmS s (j : Int) y2 = s)) := by
                        by_cases hf : Px.cameF (s.pi j) (s.po j) (s.pk j) y2 = 0
                        · exact .inl ⟨hf, cm_yes hj hf⟩
                        · exact .inr ⟨hf, cm_no hj hf⟩
                      have HW : Hid ((cmS s (j : Int) y2).wh = s.wh) := (stay_came s (j : Int) y2).1
                      have HB : Hid (Bv (cmS s (j : Int) y2) bw) := HBV.out.stay (.inl (stay_came s (j : Int) y2).2)
                      have HPH : Hid (Vv w wc mb db qb ab V s s ys) := hP
                      have hcon := fun X => Px.rcame_calls (s.pi j) (s.po j) (s.pk j) y2 X
                      unfold Px.cameP at hcon
                      have HE : Hid ((Px.cameI (s.pi j) (s.po j) (s.pk j) y2, Px.cameO (s.pi j) (s.po j) (s.pk j) y2, Px.cameK (s.pi j) (s.po j) (s.pk j) y2) = ((Px.cameI (s.pi j) (s.po j) (s.pk j) y2, Px.cameO (s.pi j) (s.po j) (s.pk j) y2, Px.cameK (s.pi j) (s.po j) (s.pk j) y2) : Int × Int × Bool)) := rfl
                      generalize hgi : Px.cameI (s.pi j) (s.po j) (s.pk j) y2 = xi at hcon
                      generalize hgo : Px.cameO (s.pi j) (s.po j) (s.pk j) y2 = xo at hcon
                      generalize hgk : Px.cameK (s.pi j) (s.po j) (s.pk j) y2 = xk at hcon
                      generalize hgf : Px.cameF (s.pi j) (s.po j) (s.pk j) y2 = ff at hcon
                      have HGI : Hid (Px.cameI (s.pi j) (s.po j) (s.pk j) y2 = xi) := hgi
                      have HGO : Hid (Px.cameO (s.pi j) (s.po j) (s.pk j) y2 = xo) := hgo
                      have HGK : Hid (Px.cameK (s.pi j) (s.po j) (s.pk j) y2 = xk) := hgk
                      have HGF : Hid (Px.cameF (s.pi j) (s.po j) (s.pk j) y2 = ff) := hgf
                      clear hgi hgo hgk hgf HE
                      generalize hi0 : s.pi j = i0 at c0 hcon
                      generalize ho0 : s.po j = o0 at c0' hcon
                      generalize hk0 : s.pk j = k0 at c0'' hcon
                      have HI0 : Hid (s.pi j = i0) := hi0
                      have HO0 : Hid (s.po j = o0) := ho0
                      have HK0 : Hid (s.pk j = k0) := hk0
                      clear hi0 ho0 hk0
                      have hVl := hP.box.lt
                      have habl := hP.pa.lt
                      have hVab := hP.ne
                      clear hP hp v0 v3 v4
                      go_upto_region 52 with fail
                      refine wp_cut (fun a' wx => ∃ (X : Nat) (v18 v19 : Value), Fr1 a' (.int .i64 n) (.slice (some ⟨b, off, none⟩) len sc) (.pointer (some ⟨mb, 0, none⟩)) (.pointer (some ⟨db, 0, none⟩)) (.pointer (some ⟨qb, 0, none⟩)) (.pointer (some ⟨ab, 0, none⟩)) (.int .i64 s.wh) (.int .i64 bw) (.int .i64 (k : Int)) (.pointer (some ⟨V, 0, none⟩)) v18 v19 ∧ v18 = .pointer (some ⟨X, 0, none⟩) ∧ v19 = .int .i64 ff ∧ Vq w wx mb db qb ab V X s s ys xi xo xk) ?rest3 ?first3
                      case first3 =>
                        intro _ _ _ _
                        have nw1 : ¬ V = wc.heap.size := by omega
                        have nw2 : ¬ ab = wc.heap.size := by omega
                        have nw3 : ¬ wc.heap.size = V := by omega
                        have nw4 : ¬ wc.heap.size = ab := by omega
                        go_region_held3 (fun X => X.cell? ⟨V, 1, none⟩ = some (.int .i64 (j : Int)) ∧ X.cell? ⟨V, 2, none⟩ = some (.int .i64 y2) ∧ X.cell? ⟨ab, j * 3, none⟩ = some (.int .i64 i0) ∧ X.cell? ⟨ab, j * 3 + 1, none⟩ = some (.int .i64 o0) ∧ X.cell? ⟨ab, j * 3 + 2, none⟩ = some (.bool k0)) (go_keep) (first | (go_at_call 14; refine (hcon _).mono ?_; rintro e w11 ⟨rfl, hb11⟩; (first | (have hz := HPH.out.below (below_of_drew hb11); have hz2 := hz) | (have hz := (HPH.out.more 0 0 false).below (below_of_drew hb11); have hz2 := hz.vv; obtain ⟨ql, q0, q1, q2, qf0, qf1, qf2⟩ := hz.box)); have u1 := (hz2.box.c 1 (by decide)).trans (by rw [HY1.out]); have u2 := (hz2.box.c 2 (by decide)).trans (by rw [HY2.out]); have u3 := (hz2.pa.ci j hj).trans (by rw [HI0.out]); have u4 := (hz2.pa.co j hj).trans (by rw [HO0.out]); have u5 := (hz2.pa.ck j hj).trans (by rw [HK0.out]); have m1 : ¬ V = w11.heap.size := (by have := hz2.box.lt; omega); have m2 : ¬ ab = w11.heap.size := (by have := hz2.pa.lt; omega); have m3 : ¬ w11.heap.size = V := (by have := hz2.box.lt; omega); have m4 : ¬ w11.heap.size = ab := (by have := hz2.pa.lt; omega)))
                        all_goals (try go_wp2_with fail)
                        all_goals (refine Met.intro ?_; go_step)
                        all_goals first | exact ⟨_, _, _, ⟨rfl, rfl, rfl, rfl, rfl, rfl, rfl, rfl, rfl, rfl, rfl, rfl, rfl, rfl⟩, rfl, rfl, hz.setQ _ _ _⟩ | exact ⟨_, _, _, ⟨rfl, rfl, rfl, rfl, rfl, rfl, rfl, rfl, rfl, rfl, rfl, rfl, rfl, rfl⟩, rfl, rfl, hz.more _ _ _⟩ | exact ⟨_, _, _, ⟨rfl, rfl, rfl, rfl, rfl, rfl, rfl, rfl, rfl, rfl, rfl, rfl, rfl, rfl⟩, rfl, rfl, (hz.setQ _ _ _).drew⟩ | exact ⟨_, _, _, ⟨rfl, rfl, rfl, rfl, rfl, rfl, rfl, rfl, rfl, rfl, rfl, rfl, rfl, rfl⟩, rfl, rfl, (hz.more _ _ _).drew⟩
                      case rest3 =>
                        intro _ wc hcut
                        obtain ⟨X, _, _, hF, rfl, rfl, hQ⟩ := hcut
                        obtain ⟨g, rfl⟩ := hF.open'
                        clear hF
                        (try dsimp only)
                        clear c0 c0' c0'' hcon HPH v1 v2 hVl habl
                        have hV2 := hQ.vv
                        have v1 := (hV2.box.c 1 (by decide)).trans (by rw [HY1.out])
                        have v2 := (hV2.box.c 2 (by decide)).trans (by rw [HY2.out])
                        rcases HD.out with ⟨hf, e1, e2⟩ | ⟨hf, e1, e2⟩
                        · have g0 : ff = 0 := HGF.out.symm.trans hf
                          have g1 : xi = s.pi j + y2 := by rw [← HGI.out]; simp [Px.cameI, hf]
                          have g2 : xo = s.po j := by rw [← HGO.out]; simp [Px.cameO, hf]
                          have g3 : xk = s.pk j := by rw [← HGK.out]; simp [Px.cameK, hf]
                          have hV3 := hV2.setPath j hj xi xo xk
                          have c4 := c2 _ _ hV3
                          rw [e1, errV_0] at c4
                          have c3 := same_nil 0
                          have HE2 : Hid (s.setP j xi xo xk = cmS s (j : Int) y2) := by show s.setP j xi xo xk = cmS s (j : Int) y2; rw [e2, g1, g2, g3]
                          subst g0
                          obtain ⟨ql, q0, q1, q2, qf0, qf1, qf2⟩ := hQ.box
                          obtain ⟨n1, n2⟩ := hQ.ne
                          have n1' : ab ≠ X := fun e => n1 e.symm
                          have n3' : V ≠ X := fun e => n2 e.symm
                          have n4' : ab ≠ V := fun e => hVab e.symm
                          have d0 := hV2.pa.ci j hj
                          have d1 := hV2.pa.co j hj
                          have d2 := hV2.pa.ck j hj
                          have d3 := hV2.pa.fr (j * 3) (by omega)
                          have d4 := hV2.pa.fr (j * 3 + 1) (by omega)
                          have d5 := hV2.pa.fr (j * 3 + 2) (by omega)
                          clear g1 g2 g3 e1 e2 hf HD HGI HGO HGK HGF hQ hV2 c2
                          have z1 := (hV3.box.c 1 (by decide)).trans (by rw [HY1.out])
                          have z2 := (hV3.box.c 2 (by decide)).trans (by rw [HY2.out])
                          generalize cmS s (j : Int) y2 = s2 at *
                          go_wp2_with fail
                          clear ql q0 q1 q2 qf0 qf1 qf2 d0 d1 d2 d3 d4 d5
                          refine c4.mono ?_
                          rintro e w12 ⟨rfl, hP12⟩
                          clear c4 hV3 v1 v2 z1 z2
                          go_wp2_with fail
                          refine (c3 _).mono ?_
                          rintro e w13 ⟨rfl, hb13⟩
                          clear c3
                          go_wp2_with fail
                          rw [HE2.out] at hP12
                          refine Met.intro ?_
                          go_step
                          exact ⟨s2, bw, _, _, _, ⟨rfl, rfl, rfl, rfl, rfl, rfl, rfl, rfl, rfl, rfl, rfl, rfl⟩, by simp, by rw [HW.out], rfl, (hP12.below hb13).oo, HB⟩
                        · have g0 : ff ≠ 0 := fun e => hf (HGF.out.trans e)
                          have b0 : (ff == 0) = false := by simpa using g0
                          have c4 := c2 _ _ hV2
                          rw [e1, HGF.out] at c4
                          have c3 := same_errV ff
                          have HE2 : Hid (cmS s (j : Int) y2 = s) := e2
                          clear e1 e2 hf HD HGI HGO HGK HGF hQ c2 g0
                          generalize cmS s (j : Int) y2 = s2 at *
                          generalize errV ff = er at c3 c4
                          go_wp2_with fail
                          refine c4.mono ?_
                          rintro e w12 ⟨rfl, hP12⟩
                          clear c4 hV2 v1 v2
                          go_wp2_with fail
                          refine (c3 _ (hH.below hP12.bel)).mono ?_
                          rintro e w13 ⟨rfl, hb13⟩
                          clear c3
                          go_wp2_with fail
                          rw [HE2.out] at hP12 HW HB
                          refine Met.intro ?_
                          go_step
                          exact ⟨s, bw, _, _, _, ⟨rfl, rfl, rfl, rfl, rfl, rfl, rfl, rfl, rfl, rfl, rfl, rfl⟩, by simp, rfl, rfl, (hP12.below hb13).oo, HB⟩
                  · have b1 : (y0 == 1) = false := by simpa using s1
                    by_cases s2 : y0 = 2
                    · subst s2
                      cases hp : ptB y1 with
                      | false =>
                        have hq := off_path (s := s) y2 0 hp
                        have c2 := v_came hP y1 y2
                        rw [hq.1, hq.2.1, errV_f (by decide)] at c2
                        have c3 := same_err 1 1
                        clear hq
                        go_wp2_with fail
                        refine c2.mono ?_
                        rintro e w12 ⟨rfl, hP12⟩
                        clear c2 v0 v1 v2 v3 v4
                        go_wp2_with fail
                        refine (c3 _ (hH.below hP12.bel)).mono ?_
                        rintro e w13 ⟨rfl, hb13⟩
                        clear c3
                        go_wp2_with fail
                        refine Met.intro ?_
                        go_step
                        exact ⟨s, bw, _, _, _, ⟨rfl, rfl, rfl, rfl, rfl, rfl, rfl, rfl, rfl, rfl, rfl, rfl⟩, rfl, rfl, rfl, (hP12.below hb13).oo, HBV⟩
                      | true =>
                        obtain ⟨j, rfl, hj⟩ := ptB_yes hp
                        have hji : (j : Int) < 4 := by omega
                        have c0 := hP.pa.ci j hj
                        have c0' := hP.pa.co j hj
                        have c0'' := hP.pa.ck j hj
                        have c2 := fun X (t : Mv) (h : Vv w X mb db qb ab V s t ys) => v_came h (j : Int) y2
                        have HD : Hid ((Px.cameF (s.pi j) (s.po j) (s.pk j) y2 = 0 ∧ cmF s (j : Int) y2 = 0 ∧ cmS s (j : Int) y2 = s.setP j (s.pi j + y2) (s.po j) (s.pk j)) ∨ (Px.cameF (s.pi j) (s.po j) (s.pk j) y2 ≠ 0 ∧ cmF s (j : Int) y2 = Px.cameF (s.pi j) (s.po j) (s.pk j) y2 ∧ cmS s (j : Int) y2 = s)) := by
                          by_cases hf : Px.cameF (s.pi j) (s.po j) (s.pk j) y2 = 0
                          · exact .inl ⟨hf, cm_yes hj hf⟩
                          · exact .inr ⟨hf, cm_no hj hf⟩
                        have HW : Hid ((cmS s (j : Int) y2).wh = s.wh) := (stay_came s (j : Int) y2).1
                        have HB : Hid (Bv (cmS s (j : Int) y2) bw) := HBV.out.stay (.inl (stay_came s (j : Int) y2).2)
                        have HPH : Hid (Vv w wc mb db qb ab V s s ys) := hP
                        have hcon := fun X => Px.rcame_calls (s.pi j) (s.po j) (s.pk j) y2 X
                        unfold Px.cameP at hcon
                        have HE : Hid ((Px.cameI (s.pi j) (s.po j) (s.pk j) y2, Px.cameO (s.pi j) (s.po j) (s.pk j) y2, Px.cameK (s.pi j) (s.po j) (s.pk j) y2) = ((Px.cameI (s.pi j) (s.po j) (s.pk j) y2, Px.cameO (s.pi j) (s.po j) (s.pk j) y2, Px.cameK (s.pi j) (s.po j) (s.pk j) y2) : Int × Int × Bool)) := rfl
                        generalize hgi : Px.cameI (s.pi j) (s.po j) (s.pk j) y2 = xi at hcon
                        generalize hgo : Px.cameO (s.pi j) (s.po j) (s.pk j) y2 = xo at hcon
                        generalize hgk : Px.cameK (s.pi j) (s.po j) (s.pk j) y2 = xk at hcon
                        generalize hgf : Px.cameF (s.pi j) (s.po j) (s.pk j) y2 = ff at hcon
                        have HGI : Hid (Px.cameI (s.pi j) (s.po j) (s.pk j) y2 = xi) := hgi
                        have HGO : Hid (Px.cameO (s.pi j) (s.po j) (s.pk j) y2 = xo) := hgo
                        have HGK : Hid (Px.cameK (s.pi j) (s.po j) (s.pk j) y2 = xk) := hgk
                        have HGF : Hid (Px.cameF (s.pi j) (s.po j) (s.pk j) y2 = ff) := hgf
                        clear hgi hgo hgk hgf HE
                        generalize hi0 : s.pi j = i0 at c0 hcon
                        generalize ho0 : s.po j = o0 at c0' hcon
                        generalize hk0 : s.pk j = k0 at c0'' hcon
                        have HI0 : Hid (s.pi j = i0) := hi0
                        have HO0 : Hid (s.po j = o0) := ho0
                        have HK0 : Hid (s.pk j = k0) := hk0
                        clear hi0 ho0 hk0
                        have hVl := hP.box.lt
                        have habl := hP.pa.lt
                        have hVab := hP.ne
                        clear hP hp v0 v3 v4
                        go_upto_region 52 with fail
                        refine wp_cut (fun a' wx => ∃ (X : Nat) (v18 v19 : Value), Fr1 a' (.int .i64 n) (.slice (some ⟨b, off, none⟩) len sc) (.pointer (some ⟨mb, 0, none⟩)) (.pointer (some ⟨db, 0, none⟩)) (.pointer (some ⟨qb, 0, none⟩)) (.pointer (some ⟨ab, 0, none⟩)) (.int .i64 s.wh) (.int .i64 bw) (.int .i64 (k : Int)) (.pointer (some ⟨V, 0, none⟩)) v18 v19 ∧ v18 = .pointer (some ⟨X, 0, none⟩) ∧ v19 = .int .i64 ff ∧ Vq w wx mb db qb ab V X s s ys xi xo xk) ?rest4 ?first4
                        case first4 =>
                          intro _ _ _ _
                          have nw1 : ¬ V = wc.heap.size := by omega
                          have nw2 : ¬ ab = wc.heap.size := by omega
                          have nw3 : ¬ wc.heap.size = V := by omega
                          have nw4 : ¬ wc.heap.size = ab := by omega
                          go_region_held3 (fun X => X.cell? ⟨V, 1, none⟩ = some (.int .i64 (j : Int)) ∧ X.cell? ⟨V, 2, none⟩ = some (.int .i64 y2) ∧ X.cell? ⟨ab, j * 3, none⟩ = some (.int .i64 i0) ∧ X.cell? ⟨ab, j * 3 + 1, none⟩ = some (.int .i64 o0) ∧ X.cell? ⟨ab, j * 3 + 2, none⟩ = some (.bool k0)) (go_keep) (first | (go_at_call 14; refine (hcon _).mono ?_; rintro e w11 ⟨rfl, hb11⟩; (first | (have hz := HPH.out.below (below_of_drew hb11); have hz2 := hz) | (have hz := (HPH.out.more 0 0 false).below (below_of_drew hb11); have hz2 := hz.vv; obtain ⟨ql, q0, q1, q2, qf0, qf1, qf2⟩ := hz.box)); have u1 := (hz2.box.c 1 (by decide)).trans (by rw [HY1.out]); have u2 := (hz2.box.c 2 (by decide)).trans (by rw [HY2.out]); have u3 := (hz2.pa.ci j hj).trans (by rw [HI0.out]); have u4 := (hz2.pa.co j hj).trans (by rw [HO0.out]); have u5 := (hz2.pa.ck j hj).trans (by rw [HK0.out]); have m1 : ¬ V = w11.heap.size := (by have := hz2.box.lt; omega); have m2 : ¬ ab = w11.heap.size := (by have := hz2.pa.lt; omega); have m3 : ¬ w11.heap.size = V := (by have := hz2.box.lt; omega); have m4 : ¬ w11.heap.size = ab := (by have := hz2.pa.lt; omega)))
                          all_goals (try go_wp2_with fail)
                          all_goals (refine Met.intro ?_; go_step)
                          all_goals first | exact ⟨_, _, _, ⟨rfl, rfl, rfl, rfl, rfl, rfl, rfl, rfl, rfl, rfl, rfl, rfl, rfl, rfl⟩, rfl, rfl, hz.setQ _ _ _⟩ | exact ⟨_, _, _, ⟨rfl, rfl, rfl, rfl, rfl, rfl, rfl, rfl, rfl, rfl, rfl, rfl, rfl, rfl⟩, rfl, rfl, hz.more _ _ _⟩ | exact ⟨_, _, _, ⟨rfl, rfl, rfl, rfl, rfl, rfl, rfl, rfl, rfl, rfl, rfl, rfl, rfl, rfl⟩, rfl, rfl, (hz.setQ _ _ _).drew⟩ | exact ⟨_, _, _, ⟨rfl, rfl, rfl, rfl, rfl, rfl, rfl, rfl, rfl, rfl, rfl, rfl, rfl, rfl⟩, rfl, rfl, (hz.more _ _ _).drew⟩
                        case rest4 =>
                          intro _ wc hcut
                          obtain ⟨X, _, _, hF, rfl, rfl, hQ⟩ := hcut
                          obtain ⟨g, rfl⟩ := hF.open'
                          clear hF
                          (try dsimp only)
                          clear c0 c0' c0'' hcon HPH v1 v2 hVl habl
                          have hV2 := hQ.vv
                          have v1 := (hV2.box.c 1 (by decide)).trans (by rw [HY1.out])
                          have v2 := (hV2.box.c 2 (by decide)).trans (by rw [HY2.out])
                          rcases HD.out with ⟨hf, e1, e2⟩ | ⟨hf, e1, e2⟩
                          · have g0 : ff = 0 := HGF.out.symm.trans hf
                            have g1 : xi = s.pi j + y2 := by rw [← HGI.out]; simp [Px.cameI, hf]
                            have g2 : xo = s.po j := by rw [← HGO.out]; simp [Px.cameO, hf]
                            have g3 : xk = s.pk j := by rw [← HGK.out]; simp [Px.cameK, hf]
                            have hV3 := hV2.setPath j hj xi xo xk
                            have c4 := c2 _ _ hV3
                            rw [e1, errV_0] at c4
                            have c3 := same_nil 0
                            have HE2 : Hid (s.setP j xi xo xk = cmS s (j : Int) y2) := by show s.setP j xi xo xk = cmS s (j : Int) y2; rw [e2, g1, g2, g3]
                            subst g0
                            obtain ⟨ql, q0, q1, q2, qf0, qf1, qf2⟩ := hQ.box
                            obtain ⟨n1, n2⟩ := hQ.ne
                            have n1' : ab ≠ X := fun e => n1 e.symm
                            have n3' : V ≠ X := fun e => n2 e.symm
                            have n4' : ab ≠ V := fun e => hVab e.symm
                            have d0 := hV2.pa.ci j hj
                            have d1 := hV2.pa.co j hj
                            have d2 := hV2.pa.ck j hj
                            have d3 := hV2.pa.fr (j * 3) (by omega)
                            have d4 := hV2.pa.fr (j * 3 + 1) (by omega)
                            have d5 := hV2.pa.fr (j * 3 + 2) (by omega)
                            clear g1 g2 g3 e1 e2 hf HD HGI HGO HGK HGF hQ hV2 c2
                            have z1 := (hV3.box.c 1 (by decide)).trans (by rw [HY1.out])
                            have z2 := (hV3.box.c 2 (by decide)).trans (by rw [HY2.out])
                            generalize cmS s (j : Int) y2 = s2 at *
                            go_wp2_with fail
                            clear ql q0 q1 q2 qf0 qf1 qf2 d0 d1 d2 d3 d4 d5
                            refine c4.mono ?_
                            rintro e w12 ⟨rfl, hP12⟩
                            clear c4 hV3 v1 v2 z1 z2
                            go_wp2_with fail
                            refine (c3 _).mono ?_
                            rintro e w13 ⟨rfl, hb13⟩
                            clear c3
                            go_wp2_with fail
                            rw [HE2.out] at hP12
                            refine Met.intro ?_
                            go_step
                            exact ⟨s2, bw, _, _, _, ⟨rfl, rfl, rfl, rfl, rfl, rfl, rfl, rfl, rfl, rfl, rfl, rfl⟩, by simp, by rw [HW.out], rfl, (hP12.below hb13).oo, HB⟩
                          · have g0 : ff ≠ 0 := fun e => hf (HGF.out.trans e)
                            have b0 : (ff == 0) = false := by simpa using g0
                            have c4 := c2 _ _ hV2
                            rw [e1, HGF.out] at c4
                            have c3 := same_errV ff
                            have HE2 : Hid (cmS s (j : Int) y2 = s) := e2
                            clear e1 e2 hf HD HGI HGO HGK HGF hQ c2 g0
                            generalize cmS s (j : Int) y2 = s2 at *
                            generalize errV ff = er at c3 c4
                            go_wp2_with fail
                            refine c4.mono ?_
                            rintro e w12 ⟨rfl, hP12⟩
                            clear c4 hV2 v1 v2
                            go_wp2_with fail
                            refine (c3 _ (hH.below hP12.bel)).mono ?_
                            rintro e w13 ⟨rfl, hb13⟩
                            clear c3
                            go_wp2_with fail
                            rw [HE2.out] at hP12 HW HB
                            refine Met.intro ?_
                            go_step
                            exact ⟨s, bw, _, _, _, ⟨rfl, rfl, rfl, rfl, rfl, rfl, rfl, rfl, rfl, rfl, rfl, rfl⟩, by simp, rfl, rfl, (hP12.below hb13).oo, HB⟩
                    · have b2 : (y0 == 2) = false := by simpa using s2
                      by_cases s3 : y0 = 3
                      · subst s3
                        cases hp : ptB y1 with
                        | false =>
                          have hq := off_path (s := s) y2 0 hp
                          have c2 := v_send hP y1 y2
                          rw [hq.2.2.1, hq.2.2.2.1, errV_f (by decide)] at c2
                          have c3 := same_err 1 1
                          clear hq
                          go_wp2_with fail
                          refine c2.mono ?_
                          rintro e w12 ⟨rfl, hP12⟩
                          clear c2 v0 v1 v2 v3 v4
                          go_wp2_with fail
                          refine (c3 _ (hH.below hP12.bel)).mono ?_
                          rintro e w13 ⟨rfl, hb13⟩
                          clear c3
                          go_wp2_with fail
                          refine Met.intro ?_
                          go_step
                          exact ⟨s, bw, _, _, _, ⟨rfl, rfl, rfl, rfl, rfl, rfl, rfl, rfl, rfl, rfl, rfl, rfl⟩, rfl, rfl, rfl, (hP12.below hb13).oo, HBV⟩
                        | true =>
                          obtain ⟨j, rfl, hj⟩ := ptB_yes hp
                          have hji : (j : Int) < 4 := by omega
                          have c0 := hP.pa.ci j hj
                          have c0' := hP.pa.co j hj
                          have c0'' := hP.pa.ck j hj
                          have c2 := fun X (t : Mv) (h : Vv w X mb db qb ab V s t ys) => v_send h (j : Int) y2
                          have HD : Hid ((Px.sendF (s.pi j) (s.po j) (s.pk j) y2 = 0 ∧ sdF s (j : Int) y2 = 0 ∧ sdS s (j : Int) y2 = s.setP j (s.pi j) (s.po j + y2) (s.pk j)) ∨ (Px.sendF (s.pi j) (s.po j) (s.pk j) y2 ≠ 0 ∧ sdF s (j : Int) y2 = Px.sendF (s.pi j) (s.po j) (s.pk j) y2 ∧ sdS s (j : Int) y2 = s)) := by
                            by_cases hf : Px.sendF (s.pi j) (s.po j) (s.pk j) y2 = 0
                            · exact .inl ⟨hf, sd_yes hj hf⟩
                            · exact .inr ⟨hf, sd_no hj hf⟩
                          have HW : Hid ((sdS s (j : Int) y2).wh = s.wh) := (stay_send s (j : Int) y2).1
                          have HB : Hid (Bv (sdS s (j : Int) y2) bw) := HBV.out.stay (.inl (stay_send s (j : Int) y2).2)
                          have HPH : Hid (Vv w wc mb db qb ab V s s ys) := hP
                          have hcon := fun X => Px.rsend_calls (s.pi j) (s.po j) (s.pk j) y2 X
                          unfold Px.sendP at hcon
                          have HE : Hid ((Px.sendI (s.pi j) (s.po j) (s.pk j) y2, Px.sendO (s.pi j) (s.po j) (s.pk j) y2, Px.sendK (s.pi j) (s.po j) (s.pk j) y2) = ((Px.sendI (s.pi j) (s.po j) (s.pk j) y2, Px.sendO (s.pi j) (s.po j) (s.pk j) y2, Px.sendK (s.pi j) (s.po j) (s.pk j) y2) : Int × Int × Bool)) := rfl
                          generalize hgi : Px.sendI (s.pi j) (s.po j) (s.pk j) y2 = xi at hcon
                          generalize hgo : Px.sendO (s.pi j) (s.po j) (s.pk j) y2 = xo at hcon
                          generalize hgk : Px.sendK (s.pi j) (s.po j) (s.pk j) y2 = xk at hcon
                          generalize hgf : Px.sendF (s.pi j) (s.po j) (s.pk j) y2 = ff at hcon
                          have HGI : Hid (Px.sendI (s.pi j) (s.po j) (s.pk j) y2 = xi) := hgi
                          have HGO : Hid (Px.sendO (s.pi j) (s.po j) (s.pk j) y2 = xo) := hgo
                          have HGK : Hid (Px.sendK (s.pi j) (s.po j) (s.pk j) y2 = xk) := hgk
                          have HGF : Hid (Px.sendF (s.pi j) (s.po j) (s.pk j) y2 = ff) := hgf
                          clear hgi hgo hgk hgf HE
                          generalize hi0 : s.pi j = i0 at c0 hcon
                          generalize ho0 : s.po j = o0 at c0' hcon
                          generalize hk0 : s.pk j = k0 at c0'' hcon
                          have HI0 : Hid (s.pi j = i0) := hi0
                          have HO0 : Hid (s.po j = o0) := ho0
                          have HK0 : Hid (s.pk j = k0) := hk0
                          clear hi0 ho0 hk0
                          have hVl := hP.box.lt
                          have habl := hP.pa.lt
                          have hVab := hP.ne
                          clear hP hp v0 v3 v4
                          go_upto_region 59 with fail
                          refine wp_cut (fun a' wx => ∃ (X : Nat) (v20 v21 : Value), Fr2 a' (.int .i64 n) (.slice (some ⟨b, off, none⟩) len sc) (.pointer (some ⟨mb, 0, none⟩)) (.pointer (some ⟨db, 0, none⟩)) (.pointer (some ⟨qb, 0, none⟩)) (.pointer (some ⟨ab, 0, none⟩)) (.int .i64 s.wh) (.int .i64 bw) (.int .i64 (k : Int)) (.pointer (some ⟨V, 0, none⟩)) v20 v21 ∧ v20 = .pointer (some ⟨X, 0, none⟩) ∧ v21 = .int .i64 ff ∧ Vq w wx mb db qb ab V X s s ys xi xo xk) ?rest5 ?first5
                          case first5 =>
                            intro _ _ _ _
                            have nw1 : ¬ V = wc.heap.size := by omega
                            have nw2 : ¬ ab = wc.heap.size := by omega
                            have nw3 : ¬ wc.heap.size = V := by omega
                            have nw4 : ¬ wc.heap.size = ab := by omega
                            go_region_held3 (fun X => X.cell? ⟨V, 1, none⟩ = some (.int .i64 (j : Int)) ∧ X.cell? ⟨V, 2, none⟩ = some (.int .i64 y2) ∧ X.cell? ⟨ab, j * 3, none⟩ = some (.int .i64 i0) ∧ X.cell? ⟨ab, j * 3 + 1, none⟩ = some (.int .i64 o0) ∧ X.cell? ⟨ab, j * 3 + 2, none⟩ = some (.bool k0)) (go_keep) (first | (go_at_call 15; refine (hcon _).mono ?_; rintro e w11 ⟨rfl, hb11⟩; (first | (have hz := HPH.out.below (below_of_drew hb11); have hz2 := hz) | (have hz := (HPH.out.more 0 0 false).below (below_of_drew hb11); have hz2 := hz.vv; obtain ⟨ql, q0, q1, q2, qf0, qf1, qf2⟩ := hz.box)); have u1 := (hz2.box.c 1 (by decide)).trans (by rw [HY1.out]); have u2 := (hz2.box.c 2 (by decide)).trans (by rw [HY2.out]); have u3 := (hz2.pa.ci j hj).trans (by rw [HI0.out]); have u4 := (hz2.pa.co j hj).trans (by rw [HO0.out]); have u5 := (hz2.pa.ck j hj).trans (by rw [HK0.out]); have m1 : ¬ V = w11.heap.size := (by have := hz2.box.lt; omega); have m2 : ¬ ab = w11.heap.size := (by have := hz2.pa.lt; omega); have m3 : ¬ w11.heap.size = V := (by have := hz2.box.lt; omega); have m4 : ¬ w11.heap.size = ab := (by have := hz2.pa.lt; omega)))
                            all_goals (try go_wp2_with fail)
                            all_goals (refine Met.intro ?_; go_step)
                            all_goals first | exact ⟨_, _, _, ⟨rfl, rfl, rfl, rfl, rfl, rfl, rfl, rfl, rfl, rfl, rfl, rfl, rfl, rfl⟩, rfl, rfl, hz.setQ _ _ _⟩ | exact ⟨_, _, _, ⟨rfl, rfl, rfl, rfl, rfl, rfl, rfl, rfl, rfl, rfl, rfl, rfl, rfl, rfl⟩, rfl, rfl, hz.more _ _ _⟩ | exact ⟨_, _, _, ⟨rfl, rfl, rfl, rfl, rfl, rfl, rfl, rfl, rfl, rfl, rfl, rfl, rfl, rfl⟩, rfl, rfl, (hz.setQ _ _ _).drew⟩ | exact ⟨_, _, _, ⟨rfl, rfl, rfl, rfl, rfl, rfl, rfl, rfl, rfl, rfl, rfl, rfl, rfl, rfl⟩, rfl, rfl, (hz.more _ _ _).drew⟩
                          case rest5 =>
                            intro _ wc hcut
                            obtain ⟨X, _, _, hF, rfl, rfl, hQ⟩ := hcut
                            obtain ⟨g, rfl⟩ := hF.open'
                            clear hF
                            (try dsimp only)
                            clear c0 c0' c0'' hcon HPH v1 v2 hVl habl
                            have hV2 := hQ.vv
                            have v1 := (hV2.box.c 1 (by decide)).trans (by rw [HY1.out])
                            have v2 := (hV2.box.c 2 (by decide)).trans (by rw [HY2.out])
                            rcases HD.out with ⟨hf, e1, e2⟩ | ⟨hf, e1, e2⟩
                            · have g0 : ff = 0 := HGF.out.symm.trans hf
                              have g1 : xi = s.pi j := by rw [← HGI.out]; simp [Px.sendI, hf]
                              have g2 : xo = s.po j + y2 := by rw [← HGO.out]; simp [Px.sendO, hf]
                              have g3 : xk = s.pk j := by rw [← HGK.out]; simp [Px.sendK, hf]
                              have hV3 := hV2.setPath j hj xi xo xk
                              have c4 := c2 _ _ hV3
                              rw [e1, errV_0] at c4
                              have c3 := same_nil 0
                              have HE2 : Hid (s.setP j xi xo xk = sdS s (j : Int) y2) := by show s.setP j xi xo xk = sdS s (j : Int) y2; rw [e2, g1, g2, g3]
                              subst g0
                              obtain ⟨ql, q0, q1, q2, qf0, qf1, qf2⟩ := hQ.box
                              obtain ⟨n1, n2⟩ := hQ.ne
                              have n1' : ab ≠ X := fun e => n1 e.symm
                              have n3' : V ≠ X := fun e => n2 e.symm
                              have n4' : ab ≠ V := fun e => hVab e.symm
                              have d0 := hV2.pa.ci j hj
                              have d1 := hV2.pa.co j hj
                              have d2 := hV2.pa.ck j hj
                              have d3 := hV2.pa.fr (j * 3) (by omega)
                              have d4 := hV2.pa.fr (j * 3 + 1) (by omega)
                              have d5 := hV2.pa.fr (j * 3 + 2) (by omega)
                              clear g1 g2 g3 e1 e2 hf HD HGI HGO HGK HGF hQ hV2 c2
                              have z1 := (hV3.box.c 1 (by decide)).trans (by rw [HY1.out])
                              have z2 := (hV3.box.c 2 (by decide)).trans (by rw [HY2.out])
                              generalize sdS s (j : Int) y2 = s2 at *
                              go_wp2_with fail
                              clear ql q0 q1 q2 qf0 qf1 qf2 d0 d1 d2 d3 d4 d5
                              refine c4.mono ?_
                              rintro e w12 ⟨rfl, hP12⟩
                              clear c4 hV3 v1 v2 z1 z2
                              go_wp2_with fail
                              refine (c3 _).mono ?_
                              rintro e w13 ⟨rfl, hb13⟩
                              clear c3
                              go_wp2_with fail
                              rw [HE2.out] at hP12
                              refine Met.intro ?_
                              go_step
                              exact ⟨s2, bw, _, _, _, ⟨rfl, rfl, rfl, rfl, rfl, rfl, rfl, rfl, rfl, rfl, rfl, rfl⟩, by simp, by rw [HW.out], rfl, (hP12.below hb13).oo, HB⟩
                            · have g0 : ff ≠ 0 := fun e => hf (HGF.out.trans e)
                              have b0 : (ff == 0) = false := by simpa using g0
                              have c4 := c2 _ _ hV2
                              rw [e1, HGF.out] at c4
                              have c3 := same_errV ff
                              have HE2 : Hid (sdS s (j : Int) y2 = s) := e2
                              clear e1 e2 hf HD HGI HGO HGK HGF hQ c2 g0
                              generalize sdS s (j : Int) y2 = s2 at *
                              generalize errV ff = er at c3 c4
                              go_wp2_with fail
                              refine c4.mono ?_
                              rintro e w12 ⟨rfl, hP12⟩
                              clear c4 hV2 v1 v2
                              go_wp2_with fail
                              refine (c3 _ (hH.below hP12.bel)).mono ?_
                              rintro e w13 ⟨rfl, hb13⟩
                              clear c3
                              go_wp2_with fail
                              rw [HE2.out] at hP12 HW HB
                              refine Met.intro ?_
                              go_step
                              exact ⟨s, bw, _, _, _, ⟨rfl, rfl, rfl, rfl, rfl, rfl, rfl, rfl, rfl, rfl, rfl, rfl⟩, by simp, rfl, rfl, (hP12.below hb13).oo, HB⟩
                      · have b3 : (y0 == 3) = false := by simpa using s3
                        by_cases s4 : y0 = 4
                        · subst s4
                          cases hp : ptB y1 with
                          | false =>
                            have hq := off_path (s := s) y2 y3 hp
                            have c2 := v_ask hP y1 y2 y3
                            rw [hq.2.2.2.2.1, hq.2.2.2.2.2.1, errV_f (by decide)] at c2
                            have c3 := same_err 1 1
                            clear hq
                            go_wp2_with fail
                            refine c2.mono ?_
                            rintro e w12 ⟨rfl, hP12⟩
                            clear c2 v0 v1 v2 v3 v4
                            go_wp2_with fail
                            refine (c3 _ (hH.below hP12.bel)).mono ?_
                            rintro e w13 ⟨rfl, hb13⟩
                            clear c3
                            go_wp2_with fail
                            refine Met.intro ?_
                            go_step
                            exact ⟨s, bw, _, _, _, ⟨rfl, rfl, rfl, rfl, rfl, rfl, rfl, rfl, rfl, rfl, rfl, rfl⟩, rfl, rfl, rfl, (hP12.below hb13).oo, HBV⟩
                          | true =>
                            obtain ⟨j, rfl, hj⟩ := ptB_yes hp
                            have hji : (j : Int) < 4 := by omega
                            have c0 := hP.pa.ci j hj
                            have c0'' := hP.pa.ck j hj
                            have hi0 := (Px.byB_yes (Px.flt_zero (hP.pok j hj)).1).1
                            cases hh : heardB (s.pi j) (s.pk j) with
                            | false =>
                              obtain ⟨ea, eb⟩ : s.pk j = false ∧ s.pi j = 0 := by
                                simp [heardB] at hh
                                exact ⟨hh.1, by omega⟩
                              have c2 := v_ask hP (j : Int) y2 y3
                              rw [(ak_no hj hh).1, (ak_no hj hh).2, errV_f (by decide)] at c2
                              have c3 := same_err 5 5
                              rw [ea] at c0''
                              rw [eb] at c0
                              clear ea eb hh hi0 hp
                              go_wp2_with fail
                              refine c2.mono ?_
                              rintro e w12 ⟨rfl, hP12⟩
                              clear c2 v0 v1 v2 v3 v4
                              go_wp2_with fail
                              refine (c3 _ (hH.below hP12.bel)).mono ?_
                              rintro e w13 ⟨rfl, hb13⟩
                              clear c3
                              go_wp2_with fail
                              refine Met.intro ?_
                              go_step
                              exact ⟨s, bw, _, _, _, ⟨rfl, rfl, rfl, rfl, rfl, rfl, rfl, rfl, rfl, rfl, rfl, rfl⟩, rfl, rfl, rfl, (hP12.below hb13).oo, HBV⟩
                            | true =>
                              have c1 := d_ask hP hP.pinv.few (j : Int) y2 y3
                              have hq := ak_yes (s := s) (n := y2) (u := y3) hj hh
                              have c2 := fun X (t : Mv) (h : Vv w X mb db qb ab V s t ys) => v_ask h (j : Int) y2 y3
                              have c3 := same_errV (Ox.askF s.os (j : Int) y2 y3)
                              have HW : Hid ((akS s (j : Int) y2 y3).wh = s.wh) := (stay_ask s (j : Int) y2 y3).1
                              have HB : Hid (Bv (akS s (j : Int) y2 y3) bw) := HBV.out.stay (.inl (stay_ask s (j : Int) y2 y3).2)
                              rw [hq.1] at c2
                              rw [← hq.2] at c1
                              clear hq
                              generalize akS s (j : Int) y2 y3 = s2 at *
                              generalize Ox.askF s.os (j : Int) y2 y3 = ff at *
                              have hor : Hid ((s.pk j = true) ∨ (s.pk j = false ∧ (s.pi j == 0) = false)) := by
                                show (s.pk j = true) ∨ (s.pk j = false ∧ (s.pi j == 0) = false)
                                cases e : s.pk j with
                                | true => exact .inl rfl
                                | false => rw [e] at hh; simp [heardB] at hh; exact .inr ⟨rfl, by rw [beq_eq_false_iff_ne]; omega⟩
                              clear hh hp hi0
                              rcases hor.out with e | ⟨e, e'⟩
                              · rw [e] at c0''
                                clear e
                                generalize s.pi j = i0 at c0
                                clear hor
                                go_wp2_with fail
                                refine c1.mono ?_
                                rintro e w11 ⟨rfl, hP11⟩
                                have c4 := c2 _ _ hP11
                                clear c1 c2 v0 v1 v2 v3 v4 c0 c0'' hP
                                have v1 := (hP11.box.c 1 (by decide)).trans (by rw [HY1.out])
                                have v2 := (hP11.box.c 2 (by decide)).trans (by rw [HY2.out])
                                have v3 := (hP11.box.c 3 (by decide)).trans (by rw [HY3.out])
                                generalize errV ff = er at c3 c4
                                go_wp2_with fail
                                refine c4.mono ?_
                                rintro e w12 ⟨rfl, hP12⟩
                                clear c4 v1 v2 v3 hP11
                                go_wp2_with fail
                                refine (c3 _ (hH.below hP12.bel)).mono ?_
                                rintro e w13 ⟨rfl, hb13⟩
                                clear c3
                                go_wp2_with fail
                                refine Met.intro ?_
                                go_step
                                exact ⟨s2, bw, _, _, _, ⟨rfl, rfl, rfl, rfl, rfl, rfl, rfl, rfl, rfl, rfl, rfl, rfl⟩, rfl, by rw [HW.out], rfl, (hP12.below hb13).oo, HB⟩
                              · rw [e] at c0''
                                clear e
                                generalize s.pi j = i0 at c0 e'
                                clear hor
                                go_wp2_with fail
                                refine c1.mono ?_
                                rintro e w11 ⟨rfl, hP11⟩
                                have c4 := c2 _ _ hP11
                                clear c1 c2 v0 v1 v2 v3 v4 c0 c0'' hP
                                have v1 := (hP11.box.c 1 (by decide)).trans (by rw [HY1.out])
                                have v2 := (hP11.box.c 2 (by decide)).trans (by rw [HY2.out])
                                have v3 := (hP11.box.c 3 (by decide)).trans (by rw [HY3.out])
                                generalize errV ff = er at c3 c4
                                go_wp2_with fail
                                refine c4.mono ?_
                                rintro e w12 ⟨rfl, hP12⟩
                                clear c4 v1 v2 v3 hP11
                                go_wp2_with fail
                                refine (c3 _ (hH.below hP12.bel)).mono ?_
                                rintro e w13 ⟨rfl, hb13⟩
                                clear c3
                                go_wp2_with fail
                                refine Met.intro ?_
                                go_step
                                exact ⟨s2, bw, _, _, _, ⟨rfl, rfl, rfl, rfl, rfl, rfl, rfl, rfl, rfl, rfl, rfl, rfl⟩, rfl, by rw [HW.out], rfl, (hP12.below hb13).oo, HB⟩
                        · have b4 : (y0 == 4) = false := by simpa using s4
                          by_cases s5 : y0 = 5
                          · subst s5
                            have c1 := d_ans hP hP.pinv y1 y2 y3 y4
                            have c2 := fun X (t : Mv) (h : Vv w X mb db qb ab V s t ys) => v_answer h y1 y2 y3 y4
                            have c3 := same_errV (Ox.ansF y1 y2 y3 y4)
                            have HW : Hid ((anS s y1 y2 y3 y4).wh = s.wh) := (stay_answer s y1 y2 y3 y4).1
                            have HB : Hid (Bv (anS s y1 y2 y3 y4) bw) := HBV.out.stay (.inl (stay_answer s y1 y2 y3 y4).2)
                            cases hB : Ox.ansB s.os y1 y2 y3 y4 with
                            | false =>
                              rw [hB] at c1 c2
                              have hq := an_no hB
                              rw [hq.1] at c2
                              rw [hq.2] at c1
                              clear hq hB HW HB
                              generalize Ox.ansF y1 y2 y3 y4 = ff at *
                              go_wp2_with fail
                              refine c1.mono ?_
                              rintro e w11 ⟨rfl, hP11⟩
                              have c4 := c2 _ _ hP11
                              clear c1 c2 v0 v1 v2 v3 v4 hP
                              have v1 := (hP11.box.c 1 (by decide)).trans (by rw [HY1.out])
                              have v2 := (hP11.box.c 2 (by decide)).trans (by rw [HY2.out])
                              have v3 := (hP11.box.c 3 (by decide)).trans (by rw [HY3.out])
                              have v4 := (hP11.box.c 4 (by decide)).trans (by rw [HY4.out])
                              generalize errV ff = er at c3 c4
                              go_wp2_with fail
                              refine c4.mono ?_
                              rintro e w12 ⟨rfl, hP12⟩
                              clear c4 v1 v2 v3 v4 hP11
                              go_wp2_with fail
                              refine (c3 _ (hH.below hP12.bel)).mono ?_
                              rintro e w13 ⟨rfl, hb13⟩
                              clear c3
                              go_wp2_with fail
                              refine Met.intro ?_
                              go_step
                              exact ⟨s, bw, _, _, _, ⟨rfl, rfl, rfl, rfl, rfl, rfl, rfl, rfl, rfl, rfl, rfl, rfl⟩, rfl, rfl, rfl, (hP12.below hb13).oo, HBV⟩
                            | true =>
                              obtain ⟨j, rfl, hj⟩ := ptB_yes (an_path hB)
                              have hji : (j : Int) < 4 := by omega
                              have hi0 := (Px.byB_yes (Px.flt_zero (hP.pok j hj)).1).1
                              have hq := an_yes hB
                              rw [hB] at c1 c2
                              clear hB
                              generalize Ox.ansF (j : Int) y2 y3 y4 = ff at *
                              generalize anS s (j : Int) y2 y3 y4 = s2 at *
                              go_wp2_with fail
                              refine c1.mono ?_
                              rintro e w11 ⟨rfl, hP11⟩
                              clear c1 v0 v1 v2 v3 v4 hP
                              have v1 := (hP11.box.c 1 (by decide)).trans (by rw [HY1.out])
                              have c0 := hP11.pa.ci j hj
                              have c0'' := hP11.pa.ck j hj
                              have cf := hP11.pa.fr (j * 3 + 2) (by omega)
                              simp only at c0 c0''
                              have HOR : Hid (s.pi j = 0 ∨ 0 < s.pi j) := by show s.pi j = 0 ∨ 0 < s.pi j; omega
                              clear hi0
                              rcases HOR.out with hz | hz
                              · have e1 : s2 = { s with os := Ox.ansL s.os (j : Int) y2 y3 y4 } := by rw [hq]; simp [prI, hz]
                                rw [hz] at c0
                                rw [← e1] at hP11
                                have hP12 := hP11
                                have c4 := c2 _ _ hP12
                                clear e1 hz hq HOR hP11 c2 cf c0''
                                have v2 := (hP12.box.c 2 (by decide)).trans (by rw [HY2.out])
                                have v3 := (hP12.box.c 3 (by decide)).trans (by rw [HY3.out])
                                have v4 := (hP12.box.c 4 (by decide)).trans (by rw [HY4.out])
                                generalize errV ff = er at c3 c4
                                go_wp2_with fail
                                refine c4.mono ?_
                                rintro e w13 ⟨rfl, hP13⟩
                                clear c4 v1 v2 v3 v4 hP12 c0
                                go_wp2_with fail
                                refine (c3 _ (hH.below hP13.bel)).mono ?_
                                rintro e w14 ⟨rfl, hb14⟩
                                clear c3
                                go_wp2_with fail
                                refine Met.intro ?_
                                go_step
                                exact ⟨s2, bw, _, _, _, ⟨rfl, rfl, rfl, rfl, rfl, rfl, rfl, rfl, rfl, rfl, rfl, rfl⟩, rfl, by rw [HW.out], rfl, (hP13.below hb14).oo, HB⟩
                              · have e1 : s2 = Mv.setP { s with os := Ox.ansL s.os (j : Int) y2 y3 y4 } j (s.pi j) (s.po j) true := by rw [hq]; simp [prI, show s.pi j ≠ 0 by omega]
                                have hP12 := hP11.setKnown j hj
                                simp only at hP12
                                rw [← e1] at hP12
                                have c4 := c2 _ _ hP12
                                have hVab := hP12.ne
                                have n4' : ab ≠ V := fun e => hVab e.symm
                                have v2 := (hP11.box.c 2 (by decide)).trans (by rw [HY2.out])
                                have v3 := (hP11.box.c 3 (by decide)).trans (by rw [HY3.out])
                                have v4 := (hP11.box.c 4 (by decide)).trans (by rw [HY4.out])
                                clear e1 hq HOR hP11 c2
                                generalize s.pi j = i0 at c0 hz
                                generalize s.pk j = k0 at c0''
                                generalize errV ff = er at c3 c4
                                go_wp2_with fail
                                refine c4.mono ?_
                                rintro e w13 ⟨rfl, hP13⟩
                                clear c4 v1 v2 v3 v4 hP12 c0 c0'' cf
                                go_wp2_with fail
                                refine (c3 _ (hH.below hP13.bel)).mono ?_
                                rintro e w14 ⟨rfl, hb14⟩
                                clear c3
                                go_wp2_with fail
                                refine Met.intro ?_
                                go_step
                                exact ⟨s2, bw, _, _, _, ⟨rfl, rfl, rfl, rfl, rfl, rfl, rfl, rfl, rfl, rfl, rfl, rfl⟩, rfl, by rw [HW.out], rfl, (hP13.below hb14).oo, HB⟩
                          · have b5 : (y0 == 5) = false := by simpa using s5
                            have c1 := o_live hP.oo HM.out
                            have hinv := hP.inv
                            have HINV : Hid (Ix.Inv s.L s.ns s.ls) := hinv
                            have HNX : Hid (∀ r, r < s.ls.length → 0 ≤ (Ix.at' s.ls r).1 ∧ (0 < r → (Ix.at' s.ls 0).1 < (Ix.at' s.ls r).1)) := fun r hr => ⟨seq_pos hinv hr, seq_rise hinv hr⟩
                            have hm8 : s.ls.length ≤ 8 := by have := hinv.full; have := hinv.l8; omega
                            have HFL : Hid (∀ r, r < s.ls.length → (Ix.flat s.ls)[r * 2]? = some (.int .i64 (Ix.at' s.ls r).1)) := fun r hr => (Ix.flat_get s.ls r hr).1
                            clear hinv
                            go_wp2_with fail
                            refine c1.mono ?_
                            rintro e w11 ⟨u, rfl, ho, hb11⟩
                            have hP11 := hP.below hb11
                            clear c1 v0 v1 v2 v3 v4 hP hb11
                            obtain ⟨ul, uc, hu⟩ := own_sh ho
                            have HC : Hid (∀ r, r < s.ls.length → ∃ g, ul = some ⟨g, 0, none⟩ ∧ w11.cell? ⟨g, r * 2, none⟩ = some (.int .i64 (Ix.at' s.ls r).1)) := fun r hr => by
                              obtain ⟨g, cap, e⟩ := Ix.own_shape ho (by omega)
                              rw [hu] at e
                              injection e with e1 e2 e3
                              have hc := ho.cells (g := g) (by rw [hu, e1]; rfl) _ _ (HFL.out r hr)
                              rw [Addr.add_lit, Nat.zero_add] at hc
                              exact ⟨g, e1, hc⟩
                            subst hu
                            clear ho HFL
                            have HLE : Hid (s.ls.length = s.ls.length) := rfl
                            generalize hml : s.ls.length = m at hm8
                            have HML : Hid (s.ls.length = m) := hml
                            clear hml HLE
                            go_upto_region 27 with fail
                            refine wp_cut (fun a' wx => ∃  (v117 : Value), Fr3 a' (.int .i64 n) (.slice (some ⟨b, off, none⟩) len sc) (.int .i64 1) (.pointer (some ⟨mb, 0, none⟩)) (.pointer (some ⟨db, 0, none⟩)) (.pointer (some ⟨qb, 0, none⟩)) (.pointer (some ⟨ab, 0, none⟩)) (.int .i64 s.wh) (.int .i64 bw) (.int .i64 (k : Int)) (.pointer (some ⟨V, 0, none⟩)) (.bool (ptB y1)) (.slice ul m uc) (.int .i64 bw) v117 ∧ v117 = .bool (decide (bw < 0 ∧ (0 : Int) < (m : Int))) ∧ wx = w11) ?rest6 ?first6
                            case first6 =>
                              intro _ _ _ _
                              by_cases e0 : bw < 0
                              · by_cases e1 : (0 : Int) < (m : Int)
                                · have HE : Hid (decide (bw < 0 ∧ (0 : Int) < (m : Int)) = true) := decide_eq_true ⟨e0, e1⟩
                                  go_wp2_with fail
                                  refine Met.intro ?_
                                  go_step
                                  exact ⟨_, ⟨rfl, rfl, rfl, rfl, rfl, rfl, rfl, rfl, rfl, rfl, rfl, rfl, rfl, rfl, rfl, rfl, rfl⟩, by first | (rw [HE.out]; done) | (rw [HE.out]; congr 1; simp <;> omega), rfl⟩
                                · have HE : Hid (decide (bw < 0 ∧ (0 : Int) < (m : Int)) = false) := decide_eq_false (fun h => e1 h.2)
                                  go_wp2_with fail
                                  refine Met.intro ?_
                                  go_step
                                  exact ⟨_, ⟨rfl, rfl, rfl, rfl, rfl, rfl, rfl, rfl, rfl, rfl, rfl, rfl, rfl, rfl, rfl, rfl, rfl⟩, by first | (rw [HE.out]; done) | (rw [HE.out]; congr 1; simp <;> omega), rfl⟩
                              · have HE : Hid (decide (bw < 0 ∧ (0 : Int) < (m : Int)) = false) := decide_eq_false (fun h => e0 h.1)
                                go_wp2_with fail
                                refine Met.intro ?_
                                go_step
                                exact ⟨_, ⟨rfl, rfl, rfl, rfl, rfl, rfl, rfl, rfl, rfl, rfl, rfl, rfl, rfl, rfl, rfl, rfl, rfl⟩, by first | (rw [HE.out]; done) | (rw [HE.out]; congr 1; simp <;> omega), rfl⟩
                            case rest6 =>
                            intro _ wc hcut
                            obtain ⟨_, hF, rfl, hwx⟩ := hcut
                            obtain ⟨g, rfl⟩ := hF.open'
                            clear hF
                            (try dsimp only)
                            subst hwx
                            go_upto_if 117 with fail
                            refine wp_cut (fun a' wx => ∃  (v27 : Value), Fr4 a' (.int .i64 n) (.slice (some ⟨b, off, none⟩) len sc) (.int .i64 1) (.pointer (some ⟨mb, 0, none⟩)) (.pointer (some ⟨db, 0, none⟩)) (.pointer (some ⟨qb, 0, none⟩)) (.pointer (some ⟨ab, 0, none⟩)) (.int .i64 s.wh) (.int .i64 bw) (.int .i64 (k : Int)) (.pointer (some ⟨V, 0, none⟩)) (.bool (ptB y1)) (.slice ul m uc) v27 ∧ v27 = .int .i64 (wsQ s) ∧ wx = wc) ?rest7 ?first7
                            case first7 =>
                              intro _ _ _ _
                              by_cases hm : m = 0
                              · have e1 : bw = -1 := by
                                  rcases HBV.out with e | ⟨e, _⟩
                                  · exact e
                                  · have := HML.out; omega
                                have HE2 : Hid (wsQ s = -1) := by show wsQ s = -1; simp [wsQ, HML.out, hm]
                                subst hm
                                subst e1
                                rw [show decide ((-1 : Int) < 0 ∧ (0 : Int) < ((0 : Nat) : Int)) = false from rfl]
                                go_wp2_with fail
                                refine Met.intro ?_
                                go_step
                                exact ⟨_, ⟨rfl, rfl, rfl, rfl, rfl, rfl, rfl, rfl, rfl, rfl, rfl, rfl, rfl, rfl, rfl, rfl⟩, by rw [HE2.out], rfl⟩
                              · have HE2 : Hid (wsQ s = (Ix.at' s.ls 0).1) := by show wsQ s = (Ix.at' s.ls 0).1; simp [wsQ, HML.out, hm]
                                obtain ⟨g', rfl, hc⟩ := HC.out 0 (by have := HML.out; omega)
                                have h0 := (HNX.out 0 (by have := HML.out; omega)).1
                                have hmi : (0 : Int) < (m : Int) := by omega
                                rcases HBV.out with e | ⟨_, e⟩
                                · subst e
                                  rw [show decide ((-1 : Int) < 0 ∧ (0 : Int) < (m : Int)) = true from decide_eq_true ⟨by decide, hmi⟩]
                                  generalize (Ix.at' s.ls 0).1 = q at *
                                  go_wp2_with fail
                                  refine Met.intro ?_
                                  go_step
                                  exact ⟨_, ⟨rfl, rfl, rfl, rfl, rfl, rfl, rfl, rfl, rfl, rfl, rfl, rfl, rfl, rfl, rfl, rfl⟩, by rw [HE2.out], rfl⟩
                                · subst e
                                  generalize (Ix.at' s.ls 0).1 = q at *
                                  have hn : ¬ q < 0 := by omega
                                  rw [show decide (q < 0 ∧ (0 : Int) < (m : Int)) = false from decide_eq_false (fun h => hn h.1)]
                                  go_wp2_with fail
                                  refine Met.intro ?_
                                  go_step
                                  exact ⟨_, ⟨rfl, rfl, rfl, rfl, rfl, rfl, rfl, rfl, rfl, rfl, rfl, rfl, rfl, rfl, rfl, rfl⟩, by rw [HE2.out], rfl⟩
                            case rest7 =>
                            intro _ wc hcut
                            obtain ⟨_, hF, rfl, hwx⟩ := hcut
                            obtain ⟨g, rfl⟩ := hF.open'
                            clear hF
                            (try dsimp only)
                            subst hwx
                            obtain ⟨z, hz⟩ : ∃ z, wsQ s = z := ⟨_, rfl⟩
                            have HZ : Hid (wsQ s = z) := hz
                            rw [hz]
                            clear hz
                            go_wp2_with fail
                            go_loopg [28, 29] m (fun gg s28 s29 wx => ∃ r : Nat, r ≤ m ∧ gg = r ∧ s28 = .int .i64 (nx s.ls r) ∧ s29 = .int .i64 ((r : Int) - 1) ∧ wc = wx)
                            case atStart => exact ⟨m, Nat.le_refl _, rfl, by rw [← HML.out, nx_end], by go_num, rfl⟩
                            case round =>
                              obtain ⟨r, hr, hgr, rfl, rfl, rfl⟩ := hrel
                              have HG : Hid (gk = r) := hgr
                              clear hgr
                              by_cases hr0 : r = 0
                              · subst hr0
                                clear hr HG
                                have HP11 : Hid (Vv w wc mb db qb ab V s s ys) := hP11
                                have v1 := (hP11.box.c 1 (by decide)).trans (by rw [HY1.out])
                                have c2 := fun X (t : Mv) (h : Vv w X mb db qb ab V s t ys) => v_move h y1
                                have c5 := fun (h0 : 0 < s.ls.length) => d_retire hP11 HINV.out h0
                                have HPA : Hid (PA wc ab s) := hP11.pa
                                clear hP11
                                cases hp : ptB y1 with
                                | false =>
                                  have hq := off_path (s := s) 0 0 hp
                                  have c4 := c2 _ _ HP11.out
                                  rw [hq.2.2.2.2.2.2.1, hq.2.2.2.2.2.2.2, errV_f (by decide)] at c4
                                  have c3 := same_err 1 1
                                  clear hq c2 c5
                                  go_wp2_with fail
                                  refine c4.mono ?_
                                  rintro e w13 ⟨rfl, hP13⟩
                                  clear c4 v1
                                  go_wp2_with fail
                                  refine (c3 _ (hH.below hP13.bel)).mono ?_
                                  rintro e w14 ⟨rfl, hb14⟩
                                  clear c3
                                  go_wp2_with fail
                                  refine Met.intro ?_
                                  go_step
                                  exact ⟨s, bw, _, _, _, ⟨rfl, rfl, rfl, rfl, rfl, rfl, rfl, rfl, rfl, rfl, rfl, rfl⟩, rfl, rfl, rfl, (hP13.below hb14).oo, HBV⟩
                                | true =>
                                  obtain ⟨j, rfl, hj⟩ := ptB_yes hp
                                  have hji : (j : Int) < 4 := by omega
                                  have c0 := HPA.out.ck j hj
                                  cases hk : s.pk j with
                                  | false =>
                                    have e1 : mvF s (j : Int) = 6 := by unfold mvF; rw [if_pos hp, Int.toNat_natCast, if_neg (by rw [hk]; decide)]
                                    have e2 : mvS s (j : Int) = s := by unfold mvS; rw [if_neg (by rw [e1]; decide)]
                                    rw [hk] at c0
                                    have c4 := c2 _ _ HP11.out
                                    rw [e1, e2, errV_f (by decide)] at c4
                                    have c3 := same_err 6 6
                                    clear e1 e2 hk hp c2 c5
                                    go_wp2_with fail
                                    refine c4.mono ?_
                                    rintro e w13 ⟨rfl, hP13⟩
                                    clear c4 v1
                                    go_wp2_with fail
                                    refine (c3 _ (hH.below hP13.bel)).mono ?_
                                    rintro e w14 ⟨rfl, hb14⟩
                                    clear c3
                                    go_wp2_with fail
                                    refine Met.intro ?_
                                    go_step
                                    exact ⟨s, bw, _, _, _, ⟨rfl, rfl, rfl, rfl, rfl, rfl, rfl, rfl, rfl, rfl, rfl, rfl⟩, rfl, rfl, rfl, (hP13.below hb14).oo, HBV⟩
                                  | true =>
                                    rw [hk] at c0
                                    by_cases hw : (j : Int) = s.wh
                                    · have e1 : mvF s (j : Int) = 7 := by unfold mvF; rw [if_pos hp, Int.toNat_natCast, if_pos hk, if_pos hw]
                                      have e2 : mvS s (j : Int) = s := by unfold mvS; rw [if_neg (by rw [e1]; decide)]
                                      have bq : ((j : Int) == s.wh) = true := by simpa using hw
                                      have c4 := c2 _ _ HP11.out
                                      rw [e1, e2, errV_f (by decide)] at c4
                                      have c3 := same_err 7 7
                                      clear e1 e2 hk hp hw c2 c5
                                      go_wp2_with fail
                                      refine c4.mono ?_
                                      rintro e w13 ⟨rfl, hP13⟩
                                      clear c4 v1
                                      go_wp2_with fail
                                      refine (c3 _ (hH.below hP13.bel)).mono ?_
                                      rintro e w14 ⟨rfl, hb14⟩
                                      clear c3
                                      go_wp2_with fail
                                      refine Met.intro ?_
                                      go_step
                                      exact ⟨s, bw, _, _, _, ⟨rfl, rfl, rfl, rfl, rfl, rfl, rfl, rfl, rfl, rfl, rfl, rfl⟩, rfl, rfl, rfl, (hP13.below hb14).oo, HBV⟩
                                    · have bq : ((j : Int) == s.wh) = false := by simpa using hw
                                      by_cases hl : m < 2
                                      · have e1 : mvF s (j : Int) = 5 := by unfold mvF; rw [if_pos hp, Int.toNat_natCast, if_pos hk, if_neg hw, if_pos (by have := HML.out; omega)]
                                        have e2 : mvS s (j : Int) = s := by unfold mvS; rw [if_neg (by rw [e1]; decide)]
                                        have e3 : nx s.ls 0 = -1 := nx_none s.ls (by have := HML.out; omega)
                                        rw [e3]
                                        have c4 := c2 _ _ HP11.out
                                        rw [e1, e2, errV_f (by decide)] at c4
                                        have c3 := same_err 5 5
                                        clear e1 e2 e3 hk hp hw hl c2 c5
                                        go_wp2_with fail
                                        refine c4.mono ?_
                                        rintro e w13 ⟨rfl, hP13⟩
                                        clear c4 v1
                                        go_wp2_with fail
                                        refine (c3 _ (hH.below hP13.bel)).mono ?_
                                        rintro e w14 ⟨rfl, hb14⟩
                                        clear c3
                                        go_wp2_with fail
                                        refine Met.intro ?_
                                        go_step
                                        exact ⟨s, bw, _, _, _, ⟨rfl, rfl, rfl, rfl, rfl, rfl, rfl, rfl, rfl, rfl, rfl, rfl⟩, rfl, rfl, rfl, (hP13.below hb14).oo, HBV⟩
                                      · have e1 : mvF s (j : Int) = 0 := by unfold mvF; rw [if_pos hp, Int.toNat_natCast, if_pos hk, if_neg hw, if_neg (by have := HML.out; omega)]
                                        have e2 : mvS s (j : Int) = { s with wh := (j : Int), ls := s.ls.tail } := by unfold mvS; rw [if_pos e1]
                                        have e3 : nx s.ls 0 = (Ix.at' s.ls 1).1 := nx_some s.ls (by have := HML.out; omega)
                                        have e4 := (HNX.out 1 (by have := HML.out; omega)).1
                                        have HZ2 : z = (Ix.at' s.ls 0).1 := by rw [← HZ.out]; unfold wsQ; rw [if_neg (by have := HML.out; omega)]
                                        have c6 := c5 (by have := HML.out; omega)
                                        rw [← HZ2] at c6
                                        have HBN : Hid (Bv (mvS s (j : Int)) (Ix.at' s.ls 1).1) := by show Bv (mvS s (j : Int)) (Ix.at' s.ls 1).1; rw [e2]; exact .inr ⟨by simp only [List.length_tail]; have := HML.out; omega, by simp only [at_tail]⟩
                                        have HWN : Hid ((mvS s (j : Int)).wh = (j : Int)) := by show (mvS s (j : Int)).wh = (j : Int); rw [e2]
                                        have c7 := fun X (h : Vv w X mb db qb ab V s { s with ls := s.ls.tail } ys) => c2 X (mvS s (j : Int)) (by rw [e2]; exact h.whn (j : Int))
                                        rw [e1, errV_0] at c7
                                        rw [e3]
                                        clear e1 e2 e3 hk hp c2 c5 hw hl HZ2 HZ
                                        generalize mvS s (j : Int) = s2 at c7 HBN HWN
                                        obtain ⟨q1, hqq⟩ : ∃ y, (Ix.at' s.ls 1).1 = y := ⟨_, rfl⟩
                                        rw [hqq] at e4 HBN ⊢
                                        clear hqq
                                        have hn : ¬ q1 < 0 := by omega
                                        have c3 := same_nil 0
                                        go_wp2_with fail
                                        refine c6.mono ?_
                                        rintro e w12 ⟨rfl, hP12⟩
                                        clear c6 v1 c0
                                        have v1 := (hP12.box.c 1 (by decide)).trans (by rw [HY1.out])
                                        have c8 := c7 _ hP12
                                        clear c7 hP12
                                        go_wp2_with fail
                                        refine c8.mono ?_
                                        rintro e w13 ⟨rfl, hP13⟩
                                        clear c8 v1
                                        go_wp2_with fail
                                        refine (c3 _).mono ?_
                                        rintro e w14 ⟨rfl, hb14⟩
                                        clear c3
                                        go_wp2_with fail
                                        refine Met.intro ?_
                                        go_step
                                        exact ⟨s2, q1, _, _, _, ⟨rfl, rfl, rfl, rfl, rfl, rfl, rfl, rfl, rfl, rfl, rfl, rfl⟩, by simp, by rw [HWN.out], rfl, (hP13.below hb14).oo, HBN⟩
                              · obtain ⟨r', rfl⟩ : ∃ r', r = r' + 1 := ⟨r - 1, by omega⟩
                                have e0 : (((r' + 1 : Nat) : Int) - 1) = (r' : Int) := by omega
                                rw [e0]
                                obtain ⟨g, rfl, hc⟩ := HC.out r' (by have := HML.out; omega)
                                have hri : (r' : Int) < (m : Int) := by omega
                                have HR2 : Hid (r' + 1 ≤ m) := hr
                                clear hr e0 hr0
                                by_cases h1 : r' = 0
                                · have e1 : (Ix.at' s.ls r').1 = z := by rw [h1, ← HZ.out]; unfold wsQ; rw [if_neg (by have := HML.out; have := HR2.out; omega)]
                                  have e2 : nx s.ls (r' + 1) = nx s.ls r' := by rw [h1, nx_zero]
                                  obtain ⟨nz, hnz⟩ : ∃ y, nx s.ls r' = y := ⟨_, rfl⟩
                                  have HNZ : Hid (nx s.ls r' = nz) := hnz
                                  rw [e1] at hc
                                  rw [e2, hnz]
                                  clear e1 e2 h1 hnz
                                  go_wp2_with fail
                                  go_roundg r'
                                  case measure => have := HG.out; omega
                                  case rel => exact ⟨r', by have := HR2.out; omega, rfl, by rw [HNZ.out], by go_num, rfl⟩
                                · have e1 : nx s.ls r' = (Ix.at' s.ls r').1 := nx_more s.ls (by have := HML.out; have := HR2.out; omega) (by omega)
                                  have e2 : ((Ix.at' s.ls r').1 != z) = true := by
                                    have hlt := (HNX.out r' (by have := HML.out; have := HR2.out; omega)).2 (by omega)
                                    have : z = (Ix.at' s.ls 0).1 := by rw [← HZ.out]; unfold wsQ; rw [if_neg (by have := HML.out; have := HR2.out; omega)]
                                    simp only [bne_iff_ne, ne_eq]
                                    omega
                                  have HE1 : Hid (nx s.ls r' = (Ix.at' s.ls r').1) := e1
                                  generalize (Ix.at' s.ls r').1 = y at hc e2 HE1
                                  generalize nx s.ls (r' + 1) = nz
                                  clear h1 e1
                                  go_wp2_with fail
                                  go_roundg r'
                                  case measure => have := HG.out; omega
                                  case rel => exact ⟨r', by have := HR2.out; omega, rfl, by rw [HE1.out], by go_num, rfl⟩
              case rest2 =>
                intro _ wc hcut
                obtain ⟨s2, bw2, _, _, _, hF, rfl, rfl, rfl, hO, HB⟩ := hcut
                obtain ⟨g, rfl⟩ := hF.open'
                clear hF
                (try dsimp only)
                clear hP v0 v1 v2 v3 v4
                have hinv := hO.inv
                have HM2 : Hid (s2.ns.length ≤ 100) := hinv.many
                have c1 := o_live hO HM2.out
                have HFL : Hid (∀ r, r < s2.ls.length → (Ix.flat s2.ls)[r * 2]? = some (.int .i64 (Ix.at' s2.ls r).1)) := fun r hr => (Ix.flat_get s2.ls r hr).1
                have HQ0 : Hid (0 < s2.ls.length → 0 ≤ (Ix.at' s2.ls 0).1) := fun h => seq_pos hinv h
                have hm8 : s2.ls.length ≤ 8 := by have := hinv.full; have := hinv.l8; omega
                clear hinv
                go_wp2_with fail
                refine c1.mono ?_
                rintro e w11 ⟨u, rfl, ho, hb11⟩
                have hO1 := hO.below hb11
                clear c1 hO hb11
                obtain ⟨ul, uc, hu⟩ := own_sh ho
                have HC : Hid (0 < s2.ls.length → ∃ g, ul = some ⟨g, 0, none⟩ ∧ w11.cell? ⟨g, 0, none⟩ = some (.int .i64 (Ix.at' s2.ls 0).1)) := fun hr => by
                  obtain ⟨g, cap, e⟩ := Ix.own_shape ho (by omega)
                  rw [hu] at e
                  injection e with e1 e2 e3
                  have hc := ho.cells (g := g) (by rw [hu, e1]; rfl) _ _ (HFL.out 0 hr)
                  rw [Addr.add_lit, Nat.zero_add] at hc
                  exact ⟨g, e1, hc⟩
                subst hu
                clear ho HFL
                generalize hml : s2.ls.length = m at hm8
                have HML : Hid (s2.ls.length = m) := hml
                clear hml
                go_upto_region 81 with fail
                refine wp_cut (fun a' wx => ∃  (v345 : Value), Fr5 a' (.int .i64 n) (.slice (some ⟨b, off, none⟩) len sc) (.int .i64 0) (.pointer (some ⟨mb, 0, none⟩)) (.pointer (some ⟨db, 0, none⟩)) (.pointer (some ⟨qb, 0, none⟩)) (.pointer (some ⟨ab, 0, none⟩)) (.int .i64 s2.wh) (.int .i64 bw2) (.int .i64 (k : Int)) (.slice ul m uc) (.int .i64 bw2) v345 ∧ v345 = .bool (decide (bw2 < 0 ∧ (0 : Int) < (m : Int))) ∧ wx = w11) ?rest8 ?first8
                case first8 =>
                  intro _ _ _ _
                  clear hO1
                  by_cases e0 : bw2 < 0
                  · by_cases e1 : (0 : Int) < (m : Int)
                    · have HE : Hid (decide (bw2 < 0 ∧ (0 : Int) < (m : Int)) = true) := decide_eq_true ⟨e0, e1⟩
                      go_wp2_with fail
                      refine Met.intro ?_
                      go_step
                      exact ⟨_, ⟨rfl, rfl, rfl, rfl, rfl, rfl, rfl, rfl, rfl, rfl, rfl, rfl, rfl, rfl, rfl⟩, by first | (rw [HE.out]; done) | (rw [HE.out]; congr 1; simp <;> omega), rfl⟩
                    · have HE : Hid (decide (bw2 < 0 ∧ (0 : Int) < (m : Int)) = false) := decide_eq_false (fun h => e1 h.2)
                      go_wp2_with fail
                      refine Met.intro ?_
                      go_step
                      exact ⟨_, ⟨rfl, rfl, rfl, rfl, rfl, rfl, rfl, rfl, rfl, rfl, rfl, rfl, rfl, rfl, rfl⟩, by first | (rw [HE.out]; done) | (rw [HE.out]; congr 1; simp <;> omega), rfl⟩
                  · have HE : Hid (decide (bw2 < 0 ∧ (0 : Int) < (m : Int)) = false) := decide_eq_false (fun h => e0 h.1)
                    go_wp2_with fail
                    refine Met.intro ?_
                    go_step
                    exact ⟨_, ⟨rfl, rfl, rfl, rfl, rfl, rfl, rfl, rfl, rfl, rfl, rfl, rfl, rfl, rfl, rfl⟩, by first | (rw [HE.out]; done) | (rw [HE.out]; congr 1; simp <;> omega), rfl⟩
                case rest8 =>
                intro _ wc hcut
                obtain ⟨_, hF, rfl, hwx⟩ := hcut
                obtain ⟨g, rfl⟩ := hF.open'
                clear hF
                (try dsimp only)
                subst hwx
                go_upto_if 345 with fail
                refine wp_cut (fun a' wx => ∃  (v5 v31 : Value), Fr6 a' (.int .i64 n) (.slice (some ⟨b, off, none⟩) len sc) v5 (.pointer (some ⟨mb, 0, none⟩)) (.pointer (some ⟨db, 0, none⟩)) (.pointer (some ⟨qb, 0, none⟩)) (.pointer (some ⟨ab, 0, none⟩)) (.int .i64 s2.wh) (.int .i64 bw2) (.int .i64 (k : Int)) v31 ∧ v5 = .int .i64 (whF s2) ∧ v31 = .int .i64 (wsQ s2) ∧ wx = wc) ?rest9 ?first9
                case first9 =>
                  intro _ _ _ _
                  clear hO1
                  by_cases hm : m = 0
                  · have e1 : bw2 = -1 := by
                      rcases HB.out with e | ⟨e, _⟩
                      · exact e
                      · have := HML.out; omega
                    have HE2 : Hid (wsQ s2 = -1) := by show wsQ s2 = -1; simp [wsQ, HML.out, hm]
                    have HE3 : Hid (whF s2 = 5) := by show whF s2 = 5; simp [whF, HML.out, hm]
                    subst hm
                    subst e1
                    rw [show decide ((-1 : Int) < 0 ∧ (0 : Int) < ((0 : Nat) : Int)) = false from rfl]
                    go_wp2_with fail
                    refine Met.intro ?_
                    go_step
                    exact ⟨_, _, ⟨rfl, rfl, rfl, rfl, rfl, rfl, rfl, rfl, rfl, rfl, rfl, rfl, rfl⟩, by rw [HE3.out], by rw [HE2.out], rfl⟩
                  · have HE2 : Hid (wsQ s2 = (Ix.at' s2.ls 0).1) := by show wsQ s2 = (Ix.at' s2.ls 0).1; simp [wsQ, HML.out, hm]
                    have HE3 : Hid (whF s2 = 0) := by show whF s2 = 0; simp [whF, HML.out, hm]
                    obtain ⟨g', rfl, hc⟩ := HC.out (by have := HML.out; omega)
                    have h0 := HQ0.out (by have := HML.out; omega)
                    have hmi : (0 : Int) < (m : Int) := by omega
                    rcases HB.out with e | ⟨_, e⟩
                    · subst e
                      rw [show decide ((-1 : Int) < 0 ∧ (0 : Int) < (m : Int)) = true from decide_eq_true ⟨by decide, hmi⟩]
                      generalize (Ix.at' s2.ls 0).1 = q at *
                      go_wp2_with fail
                      refine Met.intro ?_
                      go_step
                      exact ⟨_, _, ⟨rfl, rfl, rfl, rfl, rfl, rfl, rfl, rfl, rfl, rfl, rfl, rfl, rfl⟩, by rw [HE3.out], by rw [HE2.out], rfl⟩
                    · subst e
                      generalize (Ix.at' s2.ls 0).1 = q at *
                      have hn : ¬ q < 0 := by omega
                      rw [show decide (q < 0 ∧ (0 : Int) < (m : Int)) = false from decide_eq_false (fun h => hn h.1)]
                      go_wp2_with fail
                      refine Met.intro ?_
                      go_step
                      exact ⟨_, _, ⟨rfl, rfl, rfl, rfl, rfl, rfl, rfl, rfl, rfl, rfl, rfl, rfl, rfl⟩, by rw [HE3.out], by rw [HE2.out], rfl⟩
                case rest9 =>
                intro _ wc hcut
                obtain ⟨_, _, hF, rfl, rfl, hwx⟩ := hcut
                obtain ⟨g, rfl⟩ := hF.open'
                clear hF
                (try dsimp only)
                subst hwx
                have c1 := o_where hO1
                have c3 := same_errV (whF s2)
                clear HC HQ0
                obtain ⟨xI, hxI⟩ : ∃ z, whI s2 = z := ⟨_, rfl⟩
                obtain ⟨xQ, hxQ⟩ : ∃ z, whQ s2 = z := ⟨_, rfl⟩
                obtain ⟨xF, hxF⟩ : ∃ z, whF s2 = z := ⟨_, rfl⟩
                obtain ⟨z, hz⟩ : ∃ z, wsQ s2 = z := ⟨_, rfl⟩
                obtain ⟨wh, hwh⟩ : ∃ z, s2.wh = z := ⟨_, rfl⟩
                rw [hxI, hxQ, hxF] at c1
                rw [hxF] at c3
                rw [hxF, hz, hwh]
                have HXI : Hid (whI s2 = xI) := hxI
                have HXQ : Hid (whQ s2 = xQ) := hxQ
                have HXF : Hid (whF s2 = xF) := hxF
                have HZ : Hid (wsQ s2 = z) := hz
                have HWH : Hid (s2.wh = wh) := hwh
                clear hxI hxQ hxF hz hwh
                obtain ⟨er, her⟩ : ∃ er, errV xF = er := ⟨_, rfl⟩
                have HER : Hid (errV xF = er) := her
                rw [her] at c1 c3
                clear her
                go_wp2_with fail
                refine c1.mono ?_
                rintro e w12 ⟨rfl, hO2⟩
                clear c1 hO1
                go_upto_region 86 with fail
                refine wp_cut (fun a' wx => ∃  (v8 : Value), Fr7 a' (.int .i64 n) (.slice (some ⟨b, off, none⟩) len sc) (.pointer (some ⟨mb, 0, none⟩)) v8 (.pointer (some ⟨db, 0, none⟩)) (.pointer (some ⟨qb, 0, none⟩)) (.pointer (some ⟨ab, 0, none⟩)) (.int .i64 wh) (.int .i64 bw2) (.int .i64 (k : Int)) ∧ v8 = .bool true ∧ Oo w wx mb db qb ab s2 s2) ?rest10 ?first10
                case first10 =>
                  intro _ _ _ _
                  by_cases hm : m = 0
                  · have e1 : xF = 5 := by rw [← HXF.out]; simp [whF, HML.out, hm]
                    have e2 : xI = 0 := by rw [← HXI.out]; simp [whI, HML.out, hm]
                    have e3 : xQ = 0 := by rw [← HXQ.out]; simp [whQ, HML.out, hm]
                    clear hm HWH HZ HXI HXQ HXF HER
                    subst e1
                    subst e2
                    subst e3
                    go_wp2_with fail
                    refine (c3 _ (hH.below hO2.bel)).mono ?_
                    rintro e w13 ⟨rfl, hb13⟩
                    clear c3
                    go_wp2_with fail
                    refine Met.intro ?_
                    go_step
                    exact ⟨_, ⟨rfl, rfl, rfl, rfl, rfl, rfl, rfl, rfl, rfl, rfl, rfl, rfl⟩, by simp, hO2.below hb13⟩
                  · have e1 : xF = 0 := by rw [← HXF.out]; simp [whF, HML.out, hm]
                    have e2 : xI = wh := by rw [← HXI.out, ← HWH.out]; simp [whI, HML.out, hm]
                    have e3 : xQ = z := by rw [← HXQ.out, ← HZ.out]; simp [whQ, wsQ, HML.out, hm]
                    clear hm HWH HZ HXI HXQ HXF HER
                    subst e1
                    subst e2
                    subst e3
                    go_wp2_with fail
                    refine (c3 _ (hH.below hO2.bel)).mono ?_
                    rintro e w13 ⟨rfl, hb13⟩
                    clear c3
                    go_wp2_with fail
                    refine Met.intro ?_
                    go_step
                    exact ⟨_, ⟨rfl, rfl, rfl, rfl, rfl, rfl, rfl, rfl, rfl, rfl, rfl, rfl⟩, by simp, hO2.below hb13⟩
                case rest10 =>
                intro _ wc hcut
                obtain ⟨_, hF, rfl, hO2⟩ := hcut
                obtain ⟨g, rfl⟩ := hF.open'
                clear hF
                (try dsimp only)
                clear c3
                rw [← HWH.out]
                clear HWH HZ HXI HXQ HXF HER
                go_wp2_with fail
                go_loopg [35] 6 (fun gj s35 wx => ∃ r : Nat, gj + r = 6 ∧ s35 = .int .i64 ((r : Int) - 1) ∧ Oo w wx mb db qb ab s2 s2)
                case atStart => exact ⟨0, rfl, by go_num, hO2⟩
                case round =>
                  clear hO2
                  obtain ⟨r, hr, rfl, hO⟩ := hrel
                  have HR : Hid (gk + r = 6) := hr
                  clear hr
                  by_cases r5 : r < 6
                  · by_cases q : r = 0 ∨ r = 5
                    · have hp : ptB ((r : Int) - 1) = false := decide_eq_false (by omega)
                      have c1 := fun X => mpath_no mb ((r : Int) - 1) X hp
                      have c3 := same_err 1 1
                      rcases q with rfl | rfl
                      · go_wp2_with fail
                        refine (c1 _).mono ?_
                        rintro e w12 ⟨rfl, hb12⟩
                        have hO2 := (hO.below hb12).below (Px.below_put w12 0 0 false)
                        clear c1 hO hb12
                        go_wp2_with fail
                        refine (c3 _ (hH.below hO2.bel)).mono ?_
                        rintro e w13 ⟨rfl, hb13⟩
                        have hO3 := hO2.below hb13
                        clear c3 hO2 hb13
                        go_wp2_with fail
                        go_roundg (6 - (0 + 1))
                        case measure => have := HR.out; omega
                        case rel => exact ⟨0 + 1, by have := HR.out; omega, by go_num, hO3⟩
                      · go_wp2_with fail
                        refine (c1 _).mono ?_
                        rintro e w12 ⟨rfl, hb12⟩
                        have hO2 := (hO.below hb12).below (Px.below_put w12 0 0 false)
                        clear c1 hO hb12
                        go_wp2_with fail
                        refine (c3 _ (hH.below hO2.bel)).mono ?_
                        rintro e w13 ⟨rfl, hb13⟩
                        have hO3 := hO2.below hb13
                        clear c3 hO2 hb13
                        go_wp2_with fail
                        go_roundg (6 - (5 + 1))
                        case measure => have := HR.out; omega
                        case rel => exact ⟨5 + 1, by have := HR.out; omega, by go_num, hO3⟩
                    · obtain ⟨j, rfl, hj⟩ : ∃ j, r = j + 1 ∧ j < 4 := ⟨r - 1, by omega, by omega⟩
                      have e0 : (((j + 1 : Nat) : Int) - 1) = (j : Int) := by omega
                      rw [e0]
                      have hj0 : ¬ (j : Int) < 0 := by omega
                      have hj3 : ¬ (3 : Int) < (j : Int) := by omega
                      have hj4 : (j : Int) ≤ 4 := by omega
                      have hji : (j : Int) < 4 := by omega
                      have c1 := o_path hO j hj
                      have eqt := Px.eqP
                      have gdt := Px.guardP
                      have HPA : Hid (∀ X, Oo w X mb db qb ab s2 s2 → X.cell? ⟨ab, j * 3, none⟩ = some (.int .i64 (s2.pi j)) ∧ X.cell? ⟨ab, j * 3 + 1, none⟩ = some (.int .i64 (s2.po j)) ∧ X.cell? ⟨ab, j * 3 + 2, none⟩ = some (.bool (s2.pk j))) := fun X h => ⟨h.pa.ci j hj, h.pa.co j hj, h.pa.ck j hj⟩
                      clear e0 q r5 hO
                      generalize s2.pi j = i0 at *
                      generalize s2.po j = o0 at *
                      generalize s2.pk j = k0 at *
                      go_wp2_with fail
                      refine c1.mono ?_
                      rintro e w12 ⟨rfl, hO2⟩
                      clear c1
                      obtain ⟨xl, x0, x1, x2, xf0, xf1, xf2⟩ := Px.Box.new w12 i0 o0 k0
                      have hO3 := hO2.below (Px.below_put w12 i0 o0 k0)
                      obtain ⟨p0, p1, p2⟩ := HPA.out _ hO3
                      clear hO2 HPA
                      go_upto_if 404 with fail
                      unfold Px.put at x0 x1 x2 xf0 xf1 xf2 p0 p1 p2 hO3
                      clear xl xf0 xf1 xf2
                      generalize w12.heap.size = X at *
                      generalize w12.alloc (.cells #[.int .i64 i0, .int .i64 o0, .bool k0] 47) = WX at *
                      go_cut [8] (fun s8 wx => s8 = .bool true ∧ Oo w wx mb db qb ab s2 s2)
                      case first =>
                        go_wp2_with fail
                        go_quiet (fail)
                        all_goals go_wp2_with fail
                        all_goals go_meet
                        all_goals exact ⟨by first | rfl | simp, hO3.below (below_drewN (Below.refl _ _) _)⟩
                      case rest =>
                        obtain ⟨rfl, hO4⟩ := hcut
                        clear x0 x1 x2 p0 p1 p2 hO3 eqt gdt
                        go_wp2_with fail
                        go_roundg (6 - (j + 1 + 1))
                        case measure => have := HR.out; omega
                        case rel => exact ⟨j + 1 + 1, by have := HR.out; omega, by go_num, hO4⟩
                  · have r6 : r = 6 := by have := HR.out; omega
                    subst r6
                    go_wp2_with fail
                    refine Handed.intro (80 - (k + 1)) (by have := HK.out; omega) ?_
                    go_step
                    exact ⟨k + 1, s2, bw2, _, _, _, by have := HK.out; omega, ⟨rfl, rfl, rfl, rfl, rfl, rfl, rfl, rfl, rfl, rfl, rfl⟩, rfl, rfl, by go_num, hO, HB⟩
      · go_wp2_with fail
        go_ret
        exact ⟨rfl, hE.bel⟩
    · go_wp2_with fail
      go_ret
      exact ⟨rfl, hE.bel⟩
theorem plays_walk (n : Int) {v : Value} {w : World} (hv : StepsArg w v) (hH : Handle w) : Calls Tryd.prog 4 #[.int .i64 n, v] w fun e w' => e = .returned (.bool true) ∧ Below w.heap.size w w' := by
  cases hb : Ix.limitB n with
  | true =>
    obtain ⟨ao, len, c, rfl, hS⟩ := hv
    exact plays_yes n ao len c w hH hb hS
  | false =>
    by_cases h : n < 1
    · exact plays_lo n v w hH h hb
    · exact plays_hi n v w hH h (by have := Ix.limitB_no hb; omega) hb
end Go.Proofs.YtpnblfabdioanaaDoor
