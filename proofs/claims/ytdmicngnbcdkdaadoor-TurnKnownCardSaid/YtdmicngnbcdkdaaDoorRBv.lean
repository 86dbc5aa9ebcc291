/- TurnKnown's second half: what follows the rows of books that are none. -/
import Derived.Test.YtdmicngnbcdkdaaDoorRFq
import Derived.Deep.CutBlock
import Derived.Outline
set_option linter.unusedSimpArgs false
set_option linter.unusedVariables false
namespace Go.Proofs.YtdmicngnbcdkdaaDoor
open Go Go.RowKit

def sub26 : Code → Option Code
  | .seq (.region 26 ops d) b => some (.seq (.region 26 ops d) b)
  | .seq a b => match sub26 a with
    | some c => some c
    | none => sub26 b
  | .block _ c => sub26 c
  | .scope c => sub26 c
  | _ => none
noncomputable def known26 : Code := ((Tryd.f11.body.bind sub26).getD .skip)
set_option maxRecDepth 100000 in
theorem range548 (f : Nat → Value) : (List.range 548).map f = [f 0, f 1, f 2, f 3, f 4, f 5, f 6, f 7, f 8, f 9, f 10, f 11, f 12, f 13, f 14, f 15, f 16, f 17, f 18, f 19, f 20, f 21, f 22, f 23, f 24, f 25, f 26, f 27, f 28, f 29, f 30, f 31, f 32, f 33, f 34, f 35, f 36, f 37, f 38, f 39, f 40, f 41, f 42, f 43, f 44, f 45, f 46, f 47, f 48, f 49, f 50, f 51, f 52, f 53, f 54, f 55, f 56, f 57, f 58, f 59, f 60, f 61, f 62, f 63, f 64, f 65, f 66, f 67, f 68, f 69, f 70, f 71, f 72, f 73, f 74, f 75, f 76, f 77, f 78, f 79, f 80, f 81, f 82, f 83, f 84, f 85, f 86, f 87, f 88, f 89, f 90, f 91, f 92, f 93, f 94, f 95, f 96, f 97, f 98, f 99, f 100, f 101, f 102, f 103, f 104, f 105, f 106, f 107, f 108, f 109, f 110, f 111, f 112, f 113, f 114, f 115, f 116, f 117, f 118, f 119, f 120, f 121, f 122, f 123, f 124, f 125, f 126, f 127, f 128, f 129, f 130, f 131, f 132, f 133, f 134, f 135, f 136, f 137, f 138, f 139, f 140, f 141, f 142, f 143, f 144, f 145, f 146, f 147, f 148, f 149, f 150, f 151, f 152, f 153, f 154, f 155, f 156, f 157, f 158, f 159, f 160, f 161, f 162, f 163, f 164, f 165, f 166, f 167, f 168, f 169, f 170, f 171, f 172, f 173, f 174, f 175, f 176, f 177, f 178, f 179, f 180, f 181, f 182, f 183, f 184, f 185, f 186, f 187, f 188, f 189, f 190, f 191, f 192, f 193, f 194, f 195, f 196, f 197, f 198, f 199, f 200, f 201, f 202, f 203, f 204, f 205, f 206, f 207, f 208, f 209, f 210, f 211, f 212, f 213, f 214, f 215, f 216, f 217, f 218, f 219, f 220, f 221, f 222, f 223, f 224, f 225, f 226, f 227, f 228, f 229, f 230, f 231, f 232, f 233, f 234, f 235, f 236, f 237, f 238, f 239, f 240, f 241, f 242, f 243, f 244, f 245, f 246, f 247, f 248, f 249, f 250, f 251, f 252, f 253, f 254, f 255, f 256, f 257, f 258, f 259, f 260, f 261, f 262, f 263, f 264, f 265, f 266, f 267, f 268, f 269, f 270, f 271, f 272, f 273, f 274, f 275, f 276, f 277, f 278, f 279, f 280, f 281, f 282, f 283, f 284, f 285, f 286, f 287, f 288, f 289, f 290, f 291, f 292, f 293, f 294, f 295, f 296, f 297, f 298, f 299, f 300, f 301, f 302, f 303, f 304, f 305, f 306, f 307, f 308, f 309, f 310, f 311, f 312, f 313, f 314, f 315, f 316, f 317, f 318, f 319, f 320, f 321, f 322, f 323, f 324, f 325, f 326, f 327, f 328, f 329, f 330, f 331, f 332, f 333, f 334, f 335, f 336, f 337, f 338, f 339, f 340, f 341, f 342, f 343, f 344, f 345, f 346, f 347, f 348, f 349, f 350, f 351, f 352, f 353, f 354, f 355, f 356, f 357, f 358, f 359, f 360, f 361, f 362, f 363, f 364, f 365, f 366, f 367, f 368, f 369, f 370, f 371, f 372, f 373, f 374, f 375, f 376, f 377, f 378, f 379, f 380, f 381, f 382, f 383, f 384, f 385, f 386, f 387, f 388, f 389, f 390, f 391, f 392, f 393, f 394, f 395, f 396, f 397, f 398, f 399, f 400, f 401, f 402, f 403, f 404, f 405, f 406, f 407, f 408, f 409, f 410, f 411, f 412, f 413, f 414, f 415, f 416, f 417, f 418, f 419, f 420, f 421, f 422, f 423, f 424, f 425, f 426, f 427, f 428, f 429, f 430, f 431, f 432, f 433, f 434, f 435, f 436, f 437, f 438, f 439, f 440, f 441, f 442, f 443, f 444, f 445, f 446, f 447, f 448, f 449, f 450, f 451, f 452, f 453, f 454, f 455, f 456, f 457, f 458, f 459, f 460, f 461, f 462, f 463, f 464, f 465, f 466, f 467, f 468, f 469, f 470, f 471, f 472, f 473, f 474, f 475, f 476, f 477, f 478, f 479, f 480, f 481, f 482, f 483, f 484, f 485, f 486, f 487, f 488, f 489, f 490, f 491, f 492, f 493, f 494, f 495, f 496, f 497, f 498, f 499, f 500, f 501, f 502, f 503, f 504, f 505, f 506, f 507, f 508, f 509, f 510, f 511, f 512, f 513, f 514, f 515, f 516, f 517, f 518, f 519, f 520, f 521, f 522, f 523, f 524, f 525, f 526, f 527, f 528, f 529, f 530, f 531, f 532, f 533, f 534, f 535, f 536, f 537, f 538, f 539, f 540, f 541, f 542, f 543, f 544, f 545, f 546, f 547] := by rfl
set_option maxRecDepth 100000 in
theorem frame548 (a : Act) (h1 : a.tmps.size = 548) (h2 : a.defers = []) : ∃ f : Nat → Value, a = ⟨#[f 0, f 1, f 2, f 3, f 4, f 5, f 6, f 7, f 8, f 9, f 10, f 11, f 12, f 13, f 14, f 15, f 16, f 17, f 18, f 19, f 20, f 21, f 22, f 23, f 24, f 25, f 26, f 27, f 28, f 29, f 30, f 31, f 32, f 33, f 34, f 35, f 36, f 37, f 38, f 39, f 40, f 41, f 42, f 43, f 44, f 45, f 46, f 47, f 48, f 49, f 50, f 51, f 52, f 53, f 54, f 55, f 56, f 57, f 58, f 59, f 60, f 61, f 62, f 63, f 64, f 65, f 66, f 67, f 68, f 69, f 70, f 71, f 72, f 73, f 74, f 75, f 76, f 77, f 78, f 79, f 80, f 81, f 82, f 83, f 84, f 85, f 86, f 87, f 88, f 89, f 90, f 91, f 92, f 93, f 94, f 95, f 96, f 97, f 98, f 99, f 100, f 101, f 102, f 103, f 104, f 105, f 106, f 107, f 108, f 109, f 110, f 111, f 112, f 113, f 114, f 115, f 116, f 117, f 118, f 119, f 120, f 121, f 122, f 123, f 124, f 125, f 126, f 127, f 128, f 129, f 130, f 131, f 132, f 133, f 134, f 135, f 136, f 137, f 138, f 139, f 140, f 141, f 142, f 143, f 144, f 145, f 146, f 147, f 148, f 149, f 150, f 151, f 152, f 153, f 154, f 155, f 156, f 157, f 158, f 159, f 160, f 161, f 162, f 163, f 164, f 165, f 166, f 167, f 168, f 169, f 170, f 171, f 172, f 173, f 174, f 175, f 176, f 177, f 178, f 179, f 180, f 181, f 182, f 183, f 184, f 185, f 186, f 187, f 188, f 189, f 190, f 191, f 192, f 193, f 194, f 195, f 196, f 197, f 198, f 199, f 200, f 201, f 202, f 203, f 204, f 205, f 206, f 207, f 208, f 209, f 210, f 211, f 212, f 213, f 214, f 215, f 216, f 217, f 218, f 219, f 220, f 221, f 222, f 223, f 224, f 225, f 226, f 227, f 228, f 229, f 230, f 231, f 232, f 233, f 234, f 235, f 236, f 237, f 238, f 239, f 240, f 241, f 242, f 243, f 244, f 245, f 246, f 247, f 248, f 249, f 250, f 251, f 252, f 253, f 254, f 255, f 256, f 257, f 258, f 259, f 260, f 261, f 262, f 263, f 264, f 265, f 266, f 267, f 268, f 269, f 270, f 271, f 272, f 273, f 274, f 275, f 276, f 277, f 278, f 279, f 280, f 281, f 282, f 283, f 284, f 285, f 286, f 287, f 288, f 289, f 290, f 291, f 292, f 293, f 294, f 295, f 296, f 297, f 298, f 299, f 300, f 301, f 302, f 303, f 304, f 305, f 306, f 307, f 308, f 309, f 310, f 311, f 312, f 313, f 314, f 315, f 316, f 317, f 318, f 319, f 320, f 321, f 322, f 323, f 324, f 325, f 326, f 327, f 328, f 329, f 330, f 331, f 332, f 333, f 334, f 335, f 336, f 337, f 338, f 339, f 340, f 341, f 342, f 343, f 344, f 345, f 346, f 347, f 348, f 349, f 350, f 351, f 352, f 353, f 354, f 355, f 356, f 357, f 358, f 359, f 360, f 361, f 362, f 363, f 364, f 365, f 366, f 367, f 368, f 369, f 370, f 371, f 372, f 373, f 374, f 375, f 376, f 377, f 378, f 379, f 380, f 381, f 382, f 383, f 384, f 385, f 386, f 387, f 388, f 389, f 390, f 391, f 392, f 393, f 394, f 395, f 396, f 397, f 398, f 399, f 400, f 401, f 402, f 403, f 404, f 405, f 406, f 407, f 408, f 409, f 410, f 411, f 412, f 413, f 414, f 415, f 416, f 417, f 418, f 419, f 420, f 421, f 422, f 423, f 424, f 425, f 426, f 427, f 428, f 429, f 430, f 431, f 432, f 433, f 434, f 435, f 436, f 437, f 438, f 439, f 440, f 441, f 442, f 443, f 444, f 445, f 446, f 447, f 448, f 449, f 450, f 451, f 452, f 453, f 454, f 455, f 456, f 457, f 458, f 459, f 460, f 461, f 462, f 463, f 464, f 465, f 466, f 467, f 468, f 469, f 470, f 471, f 472, f 473, f 474, f 475, f 476, f 477, f 478, f 479, f 480, f 481, f 482, f 483, f 484, f 485, f 486, f 487, f 488, f 489, f 490, f 491, f 492, f 493, f 494, f 495, f 496, f 497, f 498, f 499, f 500, f 501, f 502, f 503, f 504, f 505, f 506, f 507, f 508, f 509, f 510, f 511, f 512, f 513, f 514, f 515, f 516, f 517, f 518, f 519, f 520, f 521, f 522, f 523, f 524, f 525, f 526, f 527, f 528, f 529, f 530, f 531, f 532, f 533, f 534, f 535, f 536, f 537, f 538, f 539, f 540, f 541, f 542, f 543, f 544, f 545, f 546, f 547], []⟩ := by
  obtain ⟨⟨l⟩, D⟩ := a
  obtain rfl : D = [] := h2
  have h1 : l.length = 548 := h1
  refine ⟨fun i => l.getD i undef, ?_⟩
  have e : l = (List.range 548).map fun i => l.getD i undef := by
    apply List.ext_getElem
    · simp [h1]
    · intro i h3 h4
      simp [List.getD_eq_getElem?_getD, h3]
  rw [range548] at e
  exact congrArg (fun x => (⟨⟨x⟩, []⟩ : Act)) e
attribute [local go_sem] Oper.semAt_some frozen_alloc_lt
set_option maxRecDepth 100000 in
set_option maxHeartbeats 16000000 in
theorem known_second (w V0 : World) (a : Act) (h1 : a.tmps.size = 548) (h2 : a.defers = []) (hn : NB w) (hw : Below w.heap.size w V0) : Code.wp Tryd.prog known26 (bodyPost Tryd.prog Tryd.f11 fun e w' => e = .returned (.bool true) ∧ ∃ x, w' = ext w x) a V0 := by
  have HN := Lib.hid hn
  have HW0 := Lib.hid hw
  obtain ⟨f, rfl⟩ := frame548 a h1 h2
  clear hn hw h1 h2
  conv => arg 2; whnf
  go_upto_region 27 with (first
    | (go_at_call 40; refine (own_any _).mono ?_; rintro e w1 ⟨h9, rfl, hb9, hc9, y9, rfl⟩; have HBK := Lib.hid hb9; have HCP := Lib.hid hc9; clear hb9 hc9)
    | (go_at_call 15; refine (ask_turn h9 _ (HBK.out.below (by (repeat (first | (with_reducible exact Below.refl _ _) | (with_reducible assumption) | ((with_reducible refine below_ext_trans ?_ ?_ _); rotate_left; focus (((try dsimp only); repeat (first | omega | simp only [World.size_alloc, World.size_setCell, World.size_drew] | (with_reducible refine le_ext_of ?_) | (with_reducible refine le_ext_add ?_))); done)) | ((with_reducible refine Below.alloc ?_ ?_ _); rotate_left; focus (((try dsimp only); repeat (first | omega | simp only [World.size_alloc, World.size_setCell, World.size_drew] | (with_reducible refine le_ext_of ?_) | (with_reducible refine le_ext_add ?_))); done)) | ((with_reducible refine Below.setCell ?_ ?_ _); rotate_left; focus (((try dsimp only); repeat (first | omega | simp only [World.size_alloc, World.size_setCell, World.size_drew] | (with_reducible refine le_ext_of ?_) | (with_reducible refine le_ext_add ?_))); done)) | (with_reducible refine Below.drew ?_)))))).mono ?_; rintro e w1 ⟨rfl, y8, rfl⟩))
  generalize hE1 : (ext V0 (y9.comp y8)).alloc _ = V1 at *
  have hB1 : Below V0.heap.size V0 V1 := by rw [← hE1]; (repeat (first | (with_reducible exact Below.refl _ _) | (with_reducible assumption) | ((with_reducible refine below_ext_trans ?_ ?_ _); rotate_left; focus (((try dsimp only); repeat (first | omega | simp only [World.size_alloc, World.size_setCell, World.size_drew] | (with_reducible refine le_ext_of ?_) | (with_reducible refine le_ext_add ?_))); done)) | ((with_reducible refine Below.alloc ?_ ?_ _); rotate_left; focus (((try dsimp only); repeat (first | omega | simp only [World.size_alloc, World.size_setCell, World.size_drew] | (with_reducible refine le_ext_of ?_) | (with_reducible refine le_ext_add ?_))); done)) | ((with_reducible refine Below.setCell ?_ ?_ _); rotate_left; focus (((try dsimp only); repeat (first | omega | simp only [World.size_alloc, World.size_setCell, World.size_drew] | (with_reducible refine le_ext_of ?_) | (with_reducible refine le_ext_add ?_))); done)) | (with_reducible refine Below.drew ?_)))
  clear hE1
  have HW1 := Lib.hid (HW0.out.trans (hB1.mono HW0.out.size))
  clear hB1 HW0 
  try clear HBK HCP
  go_upto_region 28 with (first
    | (go_at_call 40; refine (own_any _).mono ?_; rintro e w1 ⟨h9, rfl, hb9, hc9, y9, rfl⟩; have HBK := Lib.hid hb9; have HCP := Lib.hid hc9; clear hb9 hc9)
    | (go_at_call 16; refine (ask_owners1 h9 _ (HBK.out.below (by (repeat (first | (with_reducible exact Below.refl _ _) | (with_reducible assumption) | ((with_reducible refine below_ext_trans ?_ ?_ _); rotate_left; focus (((try dsimp only); repeat (first | omega | simp only [World.size_alloc, World.size_setCell, World.size_drew] | (with_reducible refine le_ext_of ?_) | (with_reducible refine le_ext_add ?_))); done)) | ((with_reducible refine Below.alloc ?_ ?_ _); rotate_left; focus (((try dsimp only); repeat (first | omega | simp only [World.size_alloc, World.size_setCell, World.size_drew] | (with_reducible refine le_ext_of ?_) | (with_reducible refine le_ext_add ?_))); done)) | ((with_reducible refine Below.setCell ?_ ?_ _); rotate_left; focus (((try dsimp only); repeat (first | omega | simp only [World.size_alloc, World.size_setCell, World.size_drew] | (with_reducible refine le_ext_of ?_) | (with_reducible refine le_ext_add ?_))); done)) | (with_reducible refine Below.drew ?_)))))).mono ?_; rintro e w1 ⟨rfl, y8, rfl⟩))
  generalize hE2 : ext V1 (y9.comp y8) = V2 at *
  have hB2 : Below V1.heap.size V1 V2 := by rw [← hE2]; (repeat (first | (with_reducible exact Below.refl _ _) | (with_reducible assumption) | ((with_reducible refine below_ext_trans ?_ ?_ _); rotate_left; focus (((try dsimp only); repeat (first | omega | simp only [World.size_alloc, World.size_setCell, World.size_drew] | (with_reducible refine le_ext_of ?_) | (with_reducible refine le_ext_add ?_))); done)) | ((with_reducible refine Below.alloc ?_ ?_ _); rotate_left; focus (((try dsimp only); repeat (first | omega | simp only [World.size_alloc, World.size_setCell, World.size_drew] | (with_reducible refine le_ext_of ?_) | (with_reducible refine le_ext_add ?_))); done)) | ((with_reducible refine Below.setCell ?_ ?_ _); rotate_left; focus (((try dsimp only); repeat (first | omega | simp only [World.size_alloc, World.size_setCell, World.size_drew] | (with_reducible refine le_ext_of ?_) | (with_reducible refine le_ext_add ?_))); done)) | (with_reducible refine Below.drew ?_)))
  clear hE2
  have HW2 := Lib.hid (HW1.out.trans (hB2.mono HW1.out.size))
  clear hB2 HW1 
  try clear HBK HCP
  go_upto_region 29 with (first
    | (go_at_call 40; refine (own_any _).mono ?_; rintro e w1 ⟨h9, rfl, hb9, hc9, y9, rfl⟩; have HBK := Lib.hid hb9; have HCP := Lib.hid hc9; clear hb9 hc9)
    | (go_at_call 16; refine (ask_owners2 h9 _ (HBK.out.below (by (repeat (first | (with_reducible exact Below.refl _ _) | (with_reducible assumption) | ((with_reducible refine below_ext_trans ?_ ?_ _); rotate_left; focus (((try dsimp only); repeat (first | omega | simp only [World.size_alloc, World.size_setCell, World.size_drew] | (with_reducible refine le_ext_of ?_) | (with_reducible refine le_ext_add ?_))); done)) | ((with_reducible refine Below.alloc ?_ ?_ _); rotate_left; focus (((try dsimp only); repeat (first | omega | simp only [World.size_alloc, World.size_setCell, World.size_drew] | (with_reducible refine le_ext_of ?_) | (with_reducible refine le_ext_add ?_))); done)) | ((with_reducible refine Below.setCell ?_ ?_ _); rotate_left; focus (((try dsimp only); repeat (first | omega | simp only [World.size_alloc, World.size_setCell, World.size_drew] | (with_reducible refine le_ext_of ?_) | (with_reducible refine le_ext_add ?_))); done)) | (with_reducible refine Below.drew ?_)))))).mono ?_; rintro e w1 ⟨rfl, y8, rfl⟩))
  generalize hE3 : ext V2 (y9.comp y8) = V3 at *
  have hB3 : Below V2.heap.size V2 V3 := by rw [← hE3]; (repeat (first | (with_reducible exact Below.refl _ _) | (with_reducible assumption) | ((with_reducible refine below_ext_trans ?_ ?_ _); rotate_left; focus (((try dsimp only); repeat (first | omega | simp only [World.size_alloc, World.size_setCell, World.size_drew] | (with_reducible refine le_ext_of ?_) | (with_reducible refine le_ext_add ?_))); done)) | ((with_reducible refine Below.alloc ?_ ?_ _); rotate_left; focus (((try dsimp only); repeat (first | omega | simp only [World.size_alloc, World.size_setCell, World.size_drew] | (with_reducible refine le_ext_of ?_) | (with_reducible refine le_ext_add ?_))); done)) | ((with_reducible refine Below.setCell ?_ ?_ _); rotate_left; focus (((try dsimp only); repeat (first | omega | simp only [World.size_alloc, World.size_setCell, World.size_drew] | (with_reducible refine le_ext_of ?_) | (with_reducible refine le_ext_add ?_))); done)) | (with_reducible refine Below.drew ?_)))
  clear hE3
  have HW3 := Lib.hid (HW2.out.trans (hB3.mono HW2.out.size))
  clear hB3 HW2 
  try clear HBK HCP
  go_upto_region 30 with (first
    | (go_at_call 40; refine (own_any _).mono ?_; rintro e w1 ⟨h9, rfl, hb9, hc9, y9, rfl⟩; have HBK := Lib.hid hb9; have HCP := Lib.hid hc9; clear hb9 hc9)
    | (go_at_call 22; refine (ask_fair h9 _ (HBK.out.below (by (repeat (first | (with_reducible exact Below.refl _ _) | (with_reducible assumption) | ((with_reducible refine below_ext_trans ?_ ?_ _); rotate_left; focus (((try dsimp only); repeat (first | omega | simp only [World.size_alloc, World.size_setCell, World.size_drew] | (with_reducible refine le_ext_of ?_) | (with_reducible refine le_ext_add ?_))); done)) | ((with_reducible refine Below.alloc ?_ ?_ _); rotate_left; focus (((try dsimp only); repeat (first | omega | simp only [World.size_alloc, World.size_setCell, World.size_drew] | (with_reducible refine le_ext_of ?_) | (with_reducible refine le_ext_add ?_))); done)) | ((with_reducible refine Below.setCell ?_ ?_ _); rotate_left; focus (((try dsimp only); repeat (first | omega | simp only [World.size_alloc, World.size_setCell, World.size_drew] | (with_reducible refine le_ext_of ?_) | (with_reducible refine le_ext_add ?_))); done)) | (with_reducible refine Below.drew ?_))))) (HN.out.below (HW3.out.trans (Below.mono (by (repeat (first | (with_reducible exact Below.refl _ _) | (with_reducible assumption) | ((with_reducible refine below_ext_trans ?_ ?_ _); rotate_left; focus (((try dsimp only); repeat (first | omega | simp only [World.size_alloc, World.size_setCell, World.size_drew] | (with_reducible refine le_ext_of ?_) | (with_reducible refine le_ext_add ?_))); done)) | ((with_reducible refine Below.alloc ?_ ?_ _); rotate_left; focus (((try dsimp only); repeat (first | omega | simp only [World.size_alloc, World.size_setCell, World.size_drew] | (with_reducible refine le_ext_of ?_) | (with_reducible refine le_ext_add ?_))); done)) | ((with_reducible refine Below.setCell ?_ ?_ _); rotate_left; focus (((try dsimp only); repeat (first | omega | simp only [World.size_alloc, World.size_setCell, World.size_drew] | (with_reducible refine le_ext_of ?_) | (with_reducible refine le_ext_add ?_))); done)) | (with_reducible refine Below.drew ?_)))) HW3.out.size)))).mono ?_; rintro e w1 ⟨rfl, y8, rfl⟩))
  generalize hE4 : ext V3 (y9.comp y8) = V4 at *
  have hB4 : Below V3.heap.size V3 V4 := by rw [← hE4]; (repeat (first | (with_reducible exact Below.refl _ _) | (with_reducible assumption) | ((with_reducible refine below_ext_trans ?_ ?_ _); rotate_left; focus (((try dsimp only); repeat (first | omega | simp only [World.size_alloc, World.size_setCell, World.size_drew] | (with_reducible refine le_ext_of ?_) | (with_reducible refine le_ext_add ?_))); done)) | ((with_reducible refine Below.alloc ?_ ?_ _); rotate_left; focus (((try dsimp only); repeat (first | omega | simp only [World.size_alloc, World.size_setCell, World.size_drew] | (with_reducible refine le_ext_of ?_) | (with_reducible refine le_ext_add ?_))); done)) | ((with_reducible refine Below.setCell ?_ ?_ _); rotate_left; focus (((try dsimp only); repeat (first | omega | simp only [World.size_alloc, World.size_setCell, World.size_drew] | (with_reducible refine le_ext_of ?_) | (with_reducible refine le_ext_add ?_))); done)) | (with_reducible refine Below.drew ?_)))
  clear hE4
  have HW4 := Lib.hid (HW3.out.trans (hB4.mono HW3.out.size))
  clear hB4 HW3 
  try clear HBK HCP
  go_upto_region 31 with (first
    | (go_at_call 40; refine (own_any _).mono ?_; rintro e w1 ⟨h9, rfl, hb9, hc9, y9, rfl⟩; have HBK := Lib.hid hb9; have HCP := Lib.hid hc9; clear hb9 hc9)
    | (go_at_call 29; refine (ask_hangs h9 _ (HBK.out.below (by (repeat (first | (with_reducible exact Below.refl _ _) | (with_reducible assumption) | ((with_reducible refine below_ext_trans ?_ ?_ _); rotate_left; focus (((try dsimp only); repeat (first | omega | simp only [World.size_alloc, World.size_setCell, World.size_drew] | (with_reducible refine le_ext_of ?_) | (with_reducible refine le_ext_add ?_))); done)) | ((with_reducible refine Below.alloc ?_ ?_ _); rotate_left; focus (((try dsimp only); repeat (first | omega | simp only [World.size_alloc, World.size_setCell, World.size_drew] | (with_reducible refine le_ext_of ?_) | (with_reducible refine le_ext_add ?_))); done)) | ((with_reducible refine Below.setCell ?_ ?_ _); rotate_left; focus (((try dsimp only); repeat (first | omega | simp only [World.size_alloc, World.size_setCell, World.size_drew] | (with_reducible refine le_ext_of ?_) | (with_reducible refine le_ext_add ?_))); done)) | (with_reducible refine Below.drew ?_)))))).mono ?_; rintro e w1 ⟨rfl, y8, rfl⟩))
  generalize hE5 : ext V4 (y9.comp y8) = V5 at *
  have hB5 : Below V4.heap.size V4 V5 := by rw [← hE5]; (repeat (first | (with_reducible exact Below.refl _ _) | (with_reducible assumption) | ((with_reducible refine below_ext_trans ?_ ?_ _); rotate_left; focus (((try dsimp only); repeat (first | omega | simp only [World.size_alloc, World.size_setCell, World.size_drew] | (with_reducible refine le_ext_of ?_) | (with_reducible refine le_ext_add ?_))); done)) | ((with_reducible refine Below.alloc ?_ ?_ _); rotate_left; focus (((try dsimp only); repeat (first | omega | simp only [World.size_alloc, World.size_setCell, World.size_drew] | (with_reducible refine le_ext_of ?_) | (with_reducible refine le_ext_add ?_))); done)) | ((with_reducible refine Below.setCell ?_ ?_ _); rotate_left; focus (((try dsimp only); repeat (first | omega | simp only [World.size_alloc, World.size_setCell, World.size_drew] | (with_reducible refine le_ext_of ?_) | (with_reducible refine le_ext_add ?_))); done)) | (with_reducible refine Below.drew ?_)))
  clear hE5
  have HW5 := Lib.hid (HW4.out.trans (hB5.mono HW4.out.size))
  clear hB5 HW4 
  try clear HBK HCP
  go_upto_region 32 with (first
    | (go_at_call 40; refine (own_any _).mono ?_; rintro e w1 ⟨h9, rfl, hb9, hc9, y9, rfl⟩; have HBK := Lib.hid hb9; have HCP := Lib.hid hc9; clear hb9 hc9)
    | (go_at_call 37; refine (ask_first1 h9 _ (HBK.out.below (by (repeat (first | (with_reducible exact Below.refl _ _) | (with_reducible assumption) | ((with_reducible refine below_ext_trans ?_ ?_ _); rotate_left; focus (((try dsimp only); repeat (first | omega | simp only [World.size_alloc, World.size_setCell, World.size_drew] | (with_reducible refine le_ext_of ?_) | (with_reducible refine le_ext_add ?_))); done)) | ((with_reducible refine Below.alloc ?_ ?_ _); rotate_left; focus (((try dsimp only); repeat (first | omega | simp only [World.size_alloc, World.size_setCell, World.size_drew] | (with_reducible refine le_ext_of ?_) | (with_reducible refine le_ext_add ?_))); done)) | ((with_reducible refine Below.setCell ?_ ?_ _); rotate_left; focus (((try dsimp only); repeat (first | omega | simp only [World.size_alloc, World.size_setCell, World.size_drew] | (with_reducible refine le_ext_of ?_) | (with_reducible refine le_ext_add ?_))); done)) | (with_reducible refine Below.drew ?_)))))).mono ?_; rintro e w1 ⟨rfl, y8, rfl⟩))
  generalize hE6 : ext V5 (y9.comp y8) = V6 at *
  have hB6 : Below V5.heap.size V5 V6 := by rw [← hE6]; (repeat (first | (with_reducible exact Below.refl _ _) | (with_reducible assumption) | ((with_reducible refine below_ext_trans ?_ ?_ _); rotate_left; focus (((try dsimp only); repeat (first | omega | simp only [World.size_alloc, World.size_setCell, World.size_drew] | (with_reducible refine le_ext_of ?_) | (with_reducible refine le_ext_add ?_))); done)) | ((with_reducible refine Below.alloc ?_ ?_ _); rotate_left; focus (((try dsimp only); repeat (first | omega | simp only [World.size_alloc, World.size_setCell, World.size_drew] | (with_reducible refine le_ext_of ?_) | (with_reducible refine le_ext_add ?_))); done)) | ((with_reducible refine Below.setCell ?_ ?_ _); rotate_left; focus (((try dsimp only); repeat (first | omega | simp only [World.size_alloc, World.size_setCell, World.size_drew] | (with_reducible refine le_ext_of ?_) | (with_reducible refine le_ext_add ?_))); done)) | (with_reducible refine Below.drew ?_)))
  clear hE6
  have HW6 := Lib.hid (HW5.out.trans (hB6.mono HW5.out.size))
  clear hB6 HW5 
  try clear HBK HCP
  go_upto_region 33 with (first
    | (go_at_call 40; refine (own_any _).mono ?_; rintro e w1 ⟨h9, rfl, hb9, hc9, y9, rfl⟩; have HBK := Lib.hid hb9; have HCP := Lib.hid hc9; clear hb9 hc9)
    | (go_at_call 37; refine (ask_first2 h9 _ (HBK.out.below (by (repeat (first | (with_reducible exact Below.refl _ _) | (with_reducible assumption) | ((with_reducible refine below_ext_trans ?_ ?_ _); rotate_left; focus (((try dsimp only); repeat (first | omega | simp only [World.size_alloc, World.size_setCell, World.size_drew] | (with_reducible refine le_ext_of ?_) | (with_reducible refine le_ext_add ?_))); done)) | ((with_reducible refine Below.alloc ?_ ?_ _); rotate_left; focus (((try dsimp only); repeat (first | omega | simp only [World.size_alloc, World.size_setCell, World.size_drew] | (with_reducible refine le_ext_of ?_) | (with_reducible refine le_ext_add ?_))); done)) | ((with_reducible refine Below.setCell ?_ ?_ _); rotate_left; focus (((try dsimp only); repeat (first | omega | simp only [World.size_alloc, World.size_setCell, World.size_drew] | (with_reducible refine le_ext_of ?_) | (with_reducible refine le_ext_add ?_))); done)) | (with_reducible refine Below.drew ?_)))))).mono ?_; rintro e w1 ⟨rfl, y8, rfl⟩))
  generalize hE7 : ext V6 (y9.comp y8) = V7 at *
  have hB7 : Below V6.heap.size V6 V7 := by rw [← hE7]; (repeat (first | (with_reducible exact Below.refl _ _) | (with_reducible assumption) | ((with_reducible refine below_ext_trans ?_ ?_ _); rotate_left; focus (((try dsimp only); repeat (first | omega | simp only [World.size_alloc, World.size_setCell, World.size_drew] | (with_reducible refine le_ext_of ?_) | (with_reducible refine le_ext_add ?_))); done)) | ((with_reducible refine Below.alloc ?_ ?_ _); rotate_left; focus (((try dsimp only); repeat (first | omega | simp only [World.size_alloc, World.size_setCell, World.size_drew] | (with_reducible refine le_ext_of ?_) | (with_reducible refine le_ext_add ?_))); done)) | ((with_reducible refine Below.setCell ?_ ?_ _); rotate_left; focus (((try dsimp only); repeat (first | omega | simp only [World.size_alloc, World.size_setCell, World.size_drew] | (with_reducible refine le_ext_of ?_) | (with_reducible refine le_ext_add ?_))); done)) | (with_reducible refine Below.drew ?_)))
  clear hE7
  have HW7 := Lib.hid (HW6.out.trans (hB7.mono HW6.out.size))
  clear hB7 HW6 
  try clear HBK HCP
  go_upto_region 34 with (first
    | (go_at_call 40; refine (own_any _).mono ?_; rintro e w1 ⟨h9, rfl, hb9, hc9, y9, rfl⟩; have HBK := Lib.hid hb9; have HCP := Lib.hid hc9; clear hb9 hc9)
    | (go_at_call 34; refine (ask_sure h9 _ (HBK.out.below (by (repeat (first | (with_reducible exact Below.refl _ _) | (with_reducible assumption) | ((with_reducible refine below_ext_trans ?_ ?_ _); rotate_left; focus (((try dsimp only); repeat (first | omega | simp only [World.size_alloc, World.size_setCell, World.size_drew] | (with_reducible refine le_ext_of ?_) | (with_reducible refine le_ext_add ?_))); done)) | ((with_reducible refine Below.alloc ?_ ?_ _); rotate_left; focus (((try dsimp only); repeat (first | omega | simp only [World.size_alloc, World.size_setCell, World.size_drew] | (with_reducible refine le_ext_of ?_) | (with_reducible refine le_ext_add ?_))); done)) | ((with_reducible refine Below.setCell ?_ ?_ _); rotate_left; focus (((try dsimp only); repeat (first | omega | simp only [World.size_alloc, World.size_setCell, World.size_drew] | (with_reducible refine le_ext_of ?_) | (with_reducible refine le_ext_add ?_))); done)) | (with_reducible refine Below.drew ?_)))))).mono ?_; rintro e w1 ⟨rfl, y8, rfl⟩))
  generalize hE8 : ext V7 (y9.comp y8) = V8 at *
  have hB8 : Below V7.heap.size V7 V8 := by rw [← hE8]; (repeat (first | (with_reducible exact Below.refl _ _) | (with_reducible assumption) | ((with_reducible refine below_ext_trans ?_ ?_ _); rotate_left; focus (((try dsimp only); repeat (first | omega | simp only [World.size_alloc, World.size_setCell, World.size_drew] | (with_reducible refine le_ext_of ?_) | (with_reducible refine le_ext_add ?_))); done)) | ((with_reducible refine Below.alloc ?_ ?_ _); rotate_left; focus (((try dsimp only); repeat (first | omega | simp only [World.size_alloc, World.size_setCell, World.size_drew] | (with_reducible refine le_ext_of ?_) | (with_reducible refine le_ext_add ?_))); done)) | ((with_reducible refine Below.setCell ?_ ?_ _); rotate_left; focus (((try dsimp only); repeat (first | omega | simp only [World.size_alloc, World.size_setCell, World.size_drew] | (with_reducible refine le_ext_of ?_) | (with_reducible refine le_ext_add ?_))); done)) | (with_reducible refine Below.drew ?_)))
  clear hE8
  have HW8 := Lib.hid (HW7.out.trans (hB8.mono HW7.out.size))
  clear hB8 HW7 
  try clear HBK HCP
  go_upto_block 2 with fail
  generalize hT : V8.alloc _ = VT
  generalize hg35 : V8.heap.size = g35
  have hBT : Below V8.heap.size V8 VT := by rw [← hT]; (repeat (first | (with_reducible exact Below.refl _ _) | (with_reducible assumption) | ((with_reducible refine below_ext_trans ?_ ?_ _); rotate_left; focus (((try dsimp only); repeat (first | omega | simp only [World.size_alloc, World.size_setCell, World.size_drew] | (with_reducible refine le_ext_of ?_) | (with_reducible refine le_ext_add ?_))); done)) | ((with_reducible refine Below.alloc ?_ ?_ _); rotate_left; focus (((try dsimp only); repeat (first | omega | simp only [World.size_alloc, World.size_setCell, World.size_drew] | (with_reducible refine le_ext_of ?_) | (with_reducible refine le_ext_add ?_))); done)) | ((with_reducible refine Below.setCell ?_ ?_ _); rotate_left; focus (((try dsimp only); repeat (first | omega | simp only [World.size_alloc, World.size_setCell, World.size_drew] | (with_reducible refine le_ext_of ?_) | (with_reducible refine le_ext_add ?_))); done)) | (with_reducible refine Below.drew ?_)))
  have kt : Blk VT g35 63 turnCells := by rw [← hT]; exact Blk.new hg35.symm
  have HKT := Lib.hid kt
  have HWT := Lib.hid (HW8.out.trans (hBT.mono HW8.out.size))
  clear hT hg35 hBT kt HW8
  go_cut [36, 37, 38] from 338 to 370 (fun _ _ _ wx => Below VT.heap.size VT wx)
  case first =>
    go_wp2_with fail
    go_loopw [36] (fun i wr => ∃ k : Nat, k ≤ 8 ∧ i = .int .i64 k ∧ ∃ x, wr = ext VT x) (fun i _ => 8 - (intOf i).toNat)
    case atStart => exact ⟨0, by omega, rfl, ext_of (Below.refl _ _)⟩
    case round =>
      obtain ⟨k, hk, rfl, y1, rfl⟩ := hrel
      have hBV := below_ext VT y1
      generalize ext VT y1 = V at *
      have HT2 := Lib.hid (HKT.out.bel hBV)
      have HN2 := Lib.hid (HN.out.below (HWT.out.trans (hBV.mono HWT.out.size)))
      have HBV := Lib.hid hBV
      clear hBV
      by_cases hlt : k < 8
      · have k0 : (0 : Int) ≤ (k : Int) := by omega
        have k1 : (k : Int) < 8 := by omega
        go_upto_region 40 with fail
        refine wp_region_flow_backS 12 548 11 (fun _ => True) (tabR V.heap.size g35 k (turnRow k).1 (turnRow k).2.1 (turnRow k).2.2) (by kernel_rfl) (by kernel_rfl) rfl (by omega) (tabR_kept _ _ _ _ _ _) (fun _ _ h _ => h) ?_ ?_ ?_
        · intro i hin hik f a W1 h1 h2 h3 h4 h5 hfw KK hKK
          rcases (show i = 0 ∨ i = 1 ∨ i = 2 ∨ i = 3 ∨ i = 4 ∨ i = 5 ∨ i = 6 ∨ i = 7 ∨ i = 8 ∨ i = 9 ∨ i = 10 by omega) with hi0 | hi0 | hi0 | hi0 | hi0 | hi0 | hi0 | hi0 | hi0 | hi0 | hi0
          · subst hi0
            refine st_call rfl rfl (wanted_none rfl) (vs := #[]) (by simp) (run_enter Tryd.func40 (by kernel_rfl) (by kernel_rfl) _) ?_
            refine (own_any _).mono ?_
            rintro e w1 ⟨h9, rfl, hb9, -, y9, rfl⟩
            exact ⟨_, rfl, hKK _ _ ⟨h9, rfl, fun _ => hb9⟩ (below_ext _ _)⟩
          · subst hi0
            exact st_move rfl rfl (wanted_none rfl) (h3 35 (by kernel_rfl)) (hKK _ _ rfl (Below.refl _ _))
          · subst hi0
            exact st_move rfl rfl (wanted_none rfl) (h3 36 (by kernel_rfl)) (hKK _ _ rfl (Below.refl _ _))
          · subst hi0
            exact st_val rfl (wanted_none rfl) (run_row3 _ rfl (h4 1 (by decide) (by kernel_rfl)) (h4 2 (by decide) (by kernel_rfl)) hlt (Nat.lt_of_lt_of_le HT2.out.lt h5.size)) (hKK _ _ rfl (Below.refl _ _))
          · subst hi0
            exact st_val rfl (wanted_none rfl) (run_col0 _ rfl (h4 3 (by decide) (by kernel_rfl)) (Nat.lt_of_lt_of_le HT2.out.lt h5.size)) (hKK _ _ rfl (Below.refl _ _))
          · subst hi0
            exact st_val rfl (wanted_none rfl) (run_num _ rfl (h4 4 (by decide) (by kernel_rfl)) (((HT2.out.bel h5).cell _).trans (turnCells_at k hlt).1)) (hKK _ _ rfl (Below.refl _ _))
          · subst hi0
            obtain ⟨h9, hu, hbf⟩ := h4 0 (by decide) (by kernel_rfl)
            have hff : f = false := by
              cases f with
              | false => rfl
              | true =>
                have h10 := hfw rfl
                rw [show Region.waitsFor .any _ 11 6 = true by kernel_rfl] at h10
                cases h10
            have hb9 := hbf hff
            refine st_call rfl rfl (wanted_none rfl) (args2 hu (h4 5 (by decide) (by kernel_rfl))) (run_enter Tryd.func15 (by kernel_rfl) (by kernel_rfl) _) ?_
            refine (own_turns k hlt h9 _ hb9 (HN2.out.below h5)).mono ?_
            rintro e w1 ⟨rfl, y9, rfl⟩
            exact ⟨_, rfl, hKK _ _ rfl (below_ext _ _)⟩
          · subst hi0
            exact st_move rfl rfl (wanted_none rfl) (h4 6 (by decide) (by kernel_rfl)) (hKK _ _ rfl (Below.refl _ _))
          · subst hi0
            exact st_val rfl (wanted_none rfl) (run_part _ rfl (h4 7 (by decide) (by kernel_rfl)) rfl) (hKK _ _ rfl (Below.refl _ _))
          · subst hi0
            exact st_val rfl (wanted_none rfl) (run_part _ rfl (h4 7 (by decide) (by kernel_rfl)) rfl) (hKK _ _ rfl (Below.refl _ _))
          · subst hi0
            exact st_valw rfl (wanted_none rfl) (run_alloc_span _ rfl) (hKK _ _ ⟨_, rfl, h5.size, _, _, Blk.new rfl, fun hf => by have h9 := hfw hf; rw [show Region.waitsFor .any _ 11 10 = true by kernel_rfl] at h9; cases h9⟩ ((Below.refl _ _).alloc (Nat.le_refl _) _))
        · intro a W1 h1 h2 h3 h4 h5 KK hKK
          obtain ⟨g, e1, e2, v0, v1, e3, -⟩ := h4 10 (by decide) (by kernel_rfl)
          refine st_store_span rfl (wanted_none rfl) rfl rfl e1 (h4 8 (by decide) (by kernel_rfl)) e3 (fun w' hw' hk' => hKK w' trivial (fun j hj hjk hr => ?_) (hw' _ e2))
          rcases (show j = 0 ∨ j = 1 ∨ j = 2 ∨ j = 3 ∨ j = 4 ∨ j = 5 ∨ j = 6 ∨ j = 7 ∨ j = 8 ∨ j = 9 ∨ j = 10 by omega) with hi0 | hi0 | hi0 | hi0 | hi0 | hi0 | hi0 | hi0 | hi0 | hi0 | hi0
          all_goals subst hi0
          · obtain ⟨h9, hu, -⟩ := hr
            exact ⟨h9, hu, fun hf => by cases hf⟩
          all_goals first
            | exact hr
            | exact ⟨g, e1, e2, _, _, hk', fun _ => ⟨rfl, rfl⟩⟩
        intro vs W2 hvs hS0 hB2
        have v1 : vs 1 = _ := hvs 1 (by omega) (by decide)
        have v2 : vs 2 = _ := hvs 2 (by omega) (by decide)
        have v3 : vs 3 = _ := hvs 3 (by omega) (by decide)
        have v4 : vs 4 = _ := hvs 4 (by omega) (by decide)
        have v5 : vs 5 = _ := hvs 5 (by omega) (by decide)
        have v6 : vs 6 = _ := hvs 6 (by omega) (by decide)
        have v7 : vs 7 = _ := hvs 7 (by omega) (by decide)
        have v8 : vs 8 = _ := hvs 8 (by omega) (by decide)
        have v9 : vs 9 = _ := hvs 9 (by omega) (by decide)
        obtain ⟨h9, v0, -⟩ := hvs 0 (by omega) (by decide)
        obtain ⟨g37, v10, hg37, x0, x1, kg, hx⟩ := hvs 10 (by omega) (by decide)
        obtain ⟨rfl, rfl⟩ := hx rfl
        simp only [putSkip, Nat.reduceEqDiff, reduceIte, v0, v1, v2, v3, v4, v5, v6, v7, v8, v9, v10]
        clear v0 v1 v2 v3 v4 v5 v6 v7 v8 v9 v10 hvs hS0
        simp only [dstOf, Act.put, List.getElem?_toArray, List.getElem?_cons_zero, List.getElem?_cons_succ, Option.bind_some, Option.getD_some, List.setIfInBounds_toArray, List.set_cons_succ, List.set_cons_zero, List.drop_succ_cons, List.drop_zero]
        have kt2 := HT2.out.bel hB2
        obtain ⟨t0, t1, t2⟩ := turnCells_at k hlt
        have c1 := (kt2.cell (k * 3 + 1)).trans t1
        have c2 := (kt2.cell (k * 3 + 2)).trans t2
        have tl := kt2.lt
        have e0 := kg.cell 0
        have e1 := kg.cell 1
        have gl := kg.lt
        simp only [List.size_toArray, List.length_cons, List.length_nil, Nat.reduceAdd, Nat.reduceLT, getElem?_pos, List.getElem_toArray, List.getElem_cons_zero, List.getElem_cons_succ] at e0 e1
        have HB2 := Lib.hid (HBV.out.trans (hB2.mono HBV.out.size))
        generalize (turnRow k).2.1 = lo at *
        generalize (turnRow k).2.2 = hi at *
        generalize (turnRow k).1 = mm at *
        clear kt2 hB2 kg t0 t1 t2 hx
        have hneq : ∀ w, (Go.binOp .neq 33 (.agg #[.int .i64 (lo : Int), .int .i64 (hi : Int)]) (.agg #[.int .i64 (lo : Int), .int .i64 (hi : Int)])).run Tryd.prog w = .ok (.bool false) w := fun w => by rw [span_neq]; simp
        go_upto_region 41 with fail
        refine wp_region_ext (by kernel_rfl) (by kernel_rfl) ?_
        repeat (go_big_quiet_step (fail))
        go_big_quiet_step ((go_at_call 26; exact quiet_ext (To_any _ _ _)))
        repeat (go_big_quiet_step (fail))
        (refine wpQuiet_nil ?_; rintro _ ⟨x, rfl⟩)
        go_wp2_with fail
        go_roundw
        case rel => exact ⟨k + 1, by omega, by go_num, by refine ext_of (HB2.out.trans (Below.mono ?_ HB2.out.size)); (repeat (first | (with_reducible exact Below.refl _ _) | (with_reducible assumption) | ((with_reducible refine below_ext_trans ?_ ?_ _); rotate_left; focus (((try dsimp only); repeat (first | omega | simp only [World.size_alloc, World.size_setCell, World.size_drew] | (with_reducible refine le_ext_of ?_) | (with_reducible refine le_ext_add ?_))); done)) | ((with_reducible refine Below.alloc ?_ ?_ _); rotate_left; focus (((try dsimp only); repeat (first | omega | simp only [World.size_alloc, World.size_setCell, World.size_drew] | (with_reducible refine le_ext_of ?_) | (with_reducible refine le_ext_add ?_))); done)) | ((with_reducible refine Below.setCell ?_ ?_ _); rotate_left; focus (((try dsimp only); repeat (first | omega | simp only [World.size_alloc, World.size_setCell, World.size_drew] | (with_reducible refine le_ext_of ?_) | (with_reducible refine le_ext_add ?_))); done)) | (with_reducible refine Below.drew ?_)))⟩
        case measure => simp [intOf]; omega
      · obtain rfl : k = 8 := by omega
        go_wp2_with fail
        go_meet
        exact HBV.out
  have hBV := hcut
  generalize wc = V9 at *
  have HW9 := Lib.hid (HWT.out.trans (hBV.mono HWT.out.size))
  clear hcut hBV HWT HKT
  go_upto_block 4 with fail
  generalize hT : V9.alloc _ = VT
  generalize hg39 : V9.heap.size = g39
  have hBT : Below V9.heap.size V9 VT := by rw [← hT]; (repeat (first | (with_reducible exact Below.refl _ _) | (with_reducible assumption) | ((with_reducible refine below_ext_trans ?_ ?_ _); rotate_left; focus (((try dsimp only); repeat (first | omega | simp only [World.size_alloc, World.size_setCell, World.size_drew] | (with_reducible refine le_ext_of ?_) | (with_reducible refine le_ext_add ?_))); done)) | ((with_reducible refine Below.alloc ?_ ?_ _); rotate_left; focus (((try dsimp only); repeat (first | omega | simp only [World.size_alloc, World.size_setCell, World.size_drew] | (with_reducible refine le_ext_of ?_) | (with_reducible refine le_ext_add ?_))); done)) | ((with_reducible refine Below.setCell ?_ ?_ _); rotate_left; focus (((try dsimp only); repeat (first | omega | simp only [World.size_alloc, World.size_setCell, World.size_drew] | (with_reducible refine le_ext_of ?_) | (with_reducible refine le_ext_add ?_))); done)) | (with_reducible refine Below.drew ?_)))
  have kt : Blk VT g39 3 kindCells := by rw [← hT]; exact Blk.new hg39.symm
  have HKT := Lib.hid kt
  have HWT := Lib.hid (HW9.out.trans (hBT.mono HW9.out.size))
  clear hT hg39 hBT kt HW9
  go_cut [40, 41, 42] from 372 to 393 (fun _ _ _ wx => Below VT.heap.size VT wx)
  case first =>
    go_wp2_with fail
    go_loopw [40] (fun i wr => ∃ k : Nat, k ≤ 5 ∧ i = .int .i64 k ∧ ∃ x, wr = ext VT x) (fun i _ => 5 - (intOf i).toNat)
    case atStart => exact ⟨0, by omega, rfl, ext_of (Below.refl _ _)⟩
    case round =>
      obtain ⟨k, hk, rfl, y1, rfl⟩ := hrel
      have hBV := below_ext VT y1
      generalize ext VT y1 = V at *
      have kt2 := HKT.out.bel hBV
      have HN2 := Lib.hid (HN.out.below (HWT.out.trans (hBV.mono HWT.out.size)))
      have HBV := Lib.hid hBV
      clear hBV
      by_cases hlt : k < 5
      · have k0 : (0 : Int) ≤ (k : Int) := by omega
        have k1 : (k : Int) < 5 := by omega
        have c1 := (kt2.cell k).trans (kindCells_at k hlt)
        have tl := kt2.lt
        clear kt2
        go_upto_region 48 with (first
          | (go_at_call 44; refine (torn_any _).mono ?_; rintro e w1 ⟨h9, rfl, hb9, hc9, y9, rfl⟩; have HBK := Lib.hid hb9; clear hb9 hc9)
          | (go_at_call 22; refine (torn_kinds k hlt h9 _ (HBK.out.below (by (repeat (first | (with_reducible exact Below.refl _ _) | (with_reducible assumption) | ((with_reducible refine below_ext_trans ?_ ?_ _); rotate_left; focus (((try dsimp only); repeat (first | omega | simp only [World.size_alloc, World.size_setCell, World.size_drew] | (with_reducible refine le_ext_of ?_) | (with_reducible refine le_ext_add ?_))); done)) | ((with_reducible refine Below.alloc ?_ ?_ _); rotate_left; focus (((try dsimp only); repeat (first | omega | simp only [World.size_alloc, World.size_setCell, World.size_drew] | (with_reducible refine le_ext_of ?_) | (with_reducible refine le_ext_add ?_))); done)) | ((with_reducible refine Below.setCell ?_ ?_ _); rotate_left; focus (((try dsimp only); repeat (first | omega | simp only [World.size_alloc, World.size_setCell, World.size_drew] | (with_reducible refine le_ext_of ?_) | (with_reducible refine le_ext_add ?_))); done)) | (with_reducible refine Below.drew ?_))))) (HN2.out.below (by (repeat (first | (with_reducible exact Below.refl _ _) | (with_reducible assumption) | ((with_reducible refine below_ext_trans ?_ ?_ _); rotate_left; focus (((try dsimp only); repeat (first | omega | simp only [World.size_alloc, World.size_setCell, World.size_drew] | (with_reducible refine le_ext_of ?_) | (with_reducible refine le_ext_add ?_))); done)) | ((with_reducible refine Below.alloc ?_ ?_ _); rotate_left; focus (((try dsimp only); repeat (first | omega | simp only [World.size_alloc, World.size_setCell, World.size_drew] | (with_reducible refine le_ext_of ?_) | (with_reducible refine le_ext_add ?_))); done)) | ((with_reducible refine Below.setCell ?_ ?_ _); rotate_left; focus (((try dsimp only); repeat (first | omega | simp only [World.size_alloc, World.size_setCell, World.size_drew] | (with_reducible refine le_ext_of ?_) | (with_reducible refine le_ext_add ?_))); done)) | (with_reducible refine Below.drew ?_)))))).mono ?_; rintro e w1 ⟨rfl, y8, rfl⟩))
        clear HBK
        generalize kindRow k = kr at *
        go_wp2_with fail
        go_roundw
        case rel => exact ⟨k + 1, by omega, by go_num, by refine ext_of (HBV.out.trans (Below.mono ?_ HBV.out.size)); (repeat (first | (with_reducible exact Below.refl _ _) | (with_reducible assumption) | ((with_reducible refine below_ext_trans ?_ ?_ _); rotate_left; focus (((try dsimp only); repeat (first | omega | simp only [World.size_alloc, World.size_setCell, World.size_drew] | (with_reducible refine le_ext_of ?_) | (with_reducible refine le_ext_add ?_))); done)) | ((with_reducible refine Below.alloc ?_ ?_ _); rotate_left; focus (((try dsimp only); repeat (first | omega | simp only [World.size_alloc, World.size_setCell, World.size_drew] | (with_reducible refine le_ext_of ?_) | (with_reducible refine le_ext_add ?_))); done)) | ((with_reducible refine Below.setCell ?_ ?_ _); rotate_left; focus (((try dsimp only); repeat (first | omega | simp only [World.size_alloc, World.size_setCell, World.size_drew] | (with_reducible refine le_ext_of ?_) | (with_reducible refine le_ext_add ?_))); done)) | (with_reducible refine Below.drew ?_)))⟩
        case measure => simp [intOf]; omega
      · obtain rfl : k = 5 := by omega
        go_wp2_with fail
        go_meet
        exact HBV.out
  have hBV := hcut
  generalize wc = V10 at *
  have HW10 := Lib.hid (HWT.out.trans (hBV.mono HWT.out.size))
  clear hcut hBV HWT HKT
  go_upto_region 51 with (first
    | (go_at_call 40; refine (own_any _).mono ?_; rintro e w1 ⟨h9, rfl, hb9, hc9, y9, rfl⟩; have HBK := Lib.hid hb9; have HCP := Lib.hid hc9; clear hb9 hc9)
    | (go_at_call 16; refine (own_owners1 h9 _ (HBK.out.below (by (repeat (first | (with_reducible exact Below.refl _ _) | (with_reducible assumption) | ((with_reducible refine below_ext_trans ?_ ?_ _); rotate_left; focus (((try dsimp only); repeat (first | omega | simp only [World.size_alloc, World.size_setCell, World.size_drew] | (with_reducible refine le_ext_of ?_) | (with_reducible refine le_ext_add ?_))); done)) | ((with_reducible refine Below.alloc ?_ ?_ _); rotate_left; focus (((try dsimp only); repeat (first | omega | simp only [World.size_alloc, World.size_setCell, World.size_drew] | (with_reducible refine le_ext_of ?_) | (with_reducible refine le_ext_add ?_))); done)) | ((with_reducible refine Below.setCell ?_ ?_ _); rotate_left; focus (((try dsimp only); repeat (first | omega | simp only [World.size_alloc, World.size_setCell, World.size_drew] | (with_reducible refine le_ext_of ?_) | (with_reducible refine le_ext_add ?_))); done)) | (with_reducible refine Below.drew ?_))))) (HN.out.below (HW10.out.trans (Below.mono (by (repeat (first | (with_reducible exact Below.refl _ _) | (with_reducible assumption) | ((with_reducible refine below_ext_trans ?_ ?_ _); rotate_left; focus (((try dsimp only); repeat (first | omega | simp only [World.size_alloc, World.size_setCell, World.size_drew] | (with_reducible refine le_ext_of ?_) | (with_reducible refine le_ext_add ?_))); done)) | ((with_reducible refine Below.alloc ?_ ?_ _); rotate_left; focus (((try dsimp only); repeat (first | omega | simp only [World.size_alloc, World.size_setCell, World.size_drew] | (with_reducible refine le_ext_of ?_) | (with_reducible refine le_ext_add ?_))); done)) | ((with_reducible refine Below.setCell ?_ ?_ _); rotate_left; focus (((try dsimp only); repeat (first | omega | simp only [World.size_alloc, World.size_setCell, World.size_drew] | (with_reducible refine le_ext_of ?_) | (with_reducible refine le_ext_add ?_))); done)) | (with_reducible refine Below.drew ?_)))) HW10.out.size)))).mono ?_; rintro e w1 ⟨p50, c50, rfl, hI9, y8, rfl⟩; (try simp only [ext_ext] at hI9); have HI50_11 := Lib.hid hI9; clear hI9))
  generalize hE11 : ext V10 (y9.comp y8) = V11 at *
  have hB11 : Below V10.heap.size V10 V11 := by rw [← hE11]; (repeat (first | (with_reducible exact Below.refl _ _) | (with_reducible assumption) | ((with_reducible refine below_ext_trans ?_ ?_ _); rotate_left; focus (((try dsimp only); repeat (first | omega | simp only [World.size_alloc, World.size_setCell, World.size_drew] | (with_reducible refine le_ext_of ?_) | (with_reducible refine le_ext_add ?_))); done)) | ((with_reducible refine Below.alloc ?_ ?_ _); rotate_left; focus (((try dsimp only); repeat (first | omega | simp only [World.size_alloc, World.size_setCell, World.size_drew] | (with_reducible refine le_ext_of ?_) | (with_reducible refine le_ext_add ?_))); done)) | ((with_reducible refine Below.setCell ?_ ?_ _); rotate_left; focus (((try dsimp only); repeat (first | omega | simp only [World.size_alloc, World.size_setCell, World.size_drew] | (with_reducible refine le_ext_of ?_) | (with_reducible refine le_ext_add ?_))); done)) | (with_reducible refine Below.drew ?_)))
  clear hE11
  have HW11 := Lib.hid (HW10.out.trans (hB11.mono HW10.out.size))
  clear hB11 HW10 
  try clear HBK HCP
  go_upto_region 52 with (first
    | (go_at_call 40; refine (own_any _).mono ?_; rintro e w1 ⟨h9, rfl, hb9, hc9, y9, rfl⟩; have HBK := Lib.hid hb9; have HCP := Lib.hid hc9; clear hb9 hc9)
    | (go_at_call 16; refine (own_owners2 h9 _ (HBK.out.below (by (repeat (first | (with_reducible exact Below.refl _ _) | (with_reducible assumption) | ((with_reducible refine below_ext_trans ?_ ?_ _); rotate_left; focus (((try dsimp only); repeat (first | omega | simp only [World.size_alloc, World.size_setCell, World.size_drew] | (with_reducible refine le_ext_of ?_) | (with_reducible refine le_ext_add ?_))); done)) | ((with_reducible refine Below.alloc ?_ ?_ _); rotate_left; focus (((try dsimp only); repeat (first | omega | simp only [World.size_alloc, World.size_setCell, World.size_drew] | (with_reducible refine le_ext_of ?_) | (with_reducible refine le_ext_add ?_))); done)) | ((with_reducible refine Below.setCell ?_ ?_ _); rotate_left; focus (((try dsimp only); repeat (first | omega | simp only [World.size_alloc, World.size_setCell, World.size_drew] | (with_reducible refine le_ext_of ?_) | (with_reducible refine le_ext_add ?_))); done)) | (with_reducible refine Below.drew ?_))))) (HN.out.below (HW11.out.trans (Below.mono (by (repeat (first | (with_reducible exact Below.refl _ _) | (with_reducible assumption) | ((with_reducible refine below_ext_trans ?_ ?_ _); rotate_left; focus (((try dsimp only); repeat (first | omega | simp only [World.size_alloc, World.size_setCell, World.size_drew] | (with_reducible refine le_ext_of ?_) | (with_reducible refine le_ext_add ?_))); done)) | ((with_reducible refine Below.alloc ?_ ?_ _); rotate_left; focus (((try dsimp only); repeat (first | omega | simp only [World.size_alloc, World.size_setCell, World.size_drew] | (with_reducible refine le_ext_of ?_) | (with_reducible refine le_ext_add ?_))); done)) | ((with_reducible refine Below.setCell ?_ ?_ _); rotate_left; focus (((try dsimp only); repeat (first | omega | simp only [World.size_alloc, World.size_setCell, World.size_drew] | (with_reducible refine le_ext_of ?_) | (with_reducible refine le_ext_add ?_))); done)) | (with_reducible refine Below.drew ?_)))) HW11.out.size)))).mono ?_; rintro e w1 ⟨p51, c51, rfl, hI9, y8, rfl⟩; (try simp only [ext_ext] at hI9); have HI51_12 := Lib.hid hI9; clear hI9))
  generalize hE12 : ext V11 (y9.comp y8) = V12 at *
  have hB12 : Below V11.heap.size V11 V12 := by rw [← hE12]; (repeat (first | (with_reducible exact Below.refl _ _) | (with_reducible assumption) | ((with_reducible refine below_ext_trans ?_ ?_ _); rotate_left; focus (((try dsimp only); repeat (first | omega | simp only [World.size_alloc, World.size_setCell, World.size_drew] | (with_reducible refine le_ext_of ?_) | (with_reducible refine le_ext_add ?_))); done)) | ((with_reducible refine Below.alloc ?_ ?_ _); rotate_left; focus (((try dsimp only); repeat (first | omega | simp only [World.size_alloc, World.size_setCell, World.size_drew] | (with_reducible refine le_ext_of ?_) | (with_reducible refine le_ext_add ?_))); done)) | ((with_reducible refine Below.setCell ?_ ?_ _); rotate_left; focus (((try dsimp only); repeat (first | omega | simp only [World.size_alloc, World.size_setCell, World.size_drew] | (with_reducible refine le_ext_of ?_) | (with_reducible refine le_ext_add ?_))); done)) | (with_reducible refine Below.drew ?_)))
  clear hE12
  have HW12 := Lib.hid (HW11.out.trans (hB12.mono HW11.out.size))
  have HI50_12 := Lib.hid (HI50_11.out.below hB12)
  clear hB12 HW11 HI50_11
  try clear HBK HCP
  go_upto_region 53 with (first
    | (go_at_call 40; refine (own_any _).mono ?_; rintro e w1 ⟨h9, rfl, hb9, hc9, y9, rfl⟩; have HBK := Lib.hid hb9; have HCP := Lib.hid hc9; clear hb9 hc9)
    | (go_at_call 29; refine (own_hangs0 h9 _ (HBK.out.below (by (repeat (first | (with_reducible exact Below.refl _ _) | (with_reducible assumption) | ((with_reducible refine below_ext_trans ?_ ?_ _); rotate_left; focus (((try dsimp only); repeat (first | omega | simp only [World.size_alloc, World.size_setCell, World.size_drew] | (with_reducible refine le_ext_of ?_) | (with_reducible refine le_ext_add ?_))); done)) | ((with_reducible refine Below.alloc ?_ ?_ _); rotate_left; focus (((try dsimp only); repeat (first | omega | simp only [World.size_alloc, World.size_setCell, World.size_drew] | (with_reducible refine le_ext_of ?_) | (with_reducible refine le_ext_add ?_))); done)) | ((with_reducible refine Below.setCell ?_ ?_ _); rotate_left; focus (((try dsimp only); repeat (first | omega | simp only [World.size_alloc, World.size_setCell, World.size_drew] | (with_reducible refine le_ext_of ?_) | (with_reducible refine le_ext_add ?_))); done)) | (with_reducible refine Below.drew ?_))))) (HN.out.below (HW12.out.trans (Below.mono (by (repeat (first | (with_reducible exact Below.refl _ _) | (with_reducible assumption) | ((with_reducible refine below_ext_trans ?_ ?_ _); rotate_left; focus (((try dsimp only); repeat (first | omega | simp only [World.size_alloc, World.size_setCell, World.size_drew] | (with_reducible refine le_ext_of ?_) | (with_reducible refine le_ext_add ?_))); done)) | ((with_reducible refine Below.alloc ?_ ?_ _); rotate_left; focus (((try dsimp only); repeat (first | omega | simp only [World.size_alloc, World.size_setCell, World.size_drew] | (with_reducible refine le_ext_of ?_) | (with_reducible refine le_ext_add ?_))); done)) | ((with_reducible refine Below.setCell ?_ ?_ _); rotate_left; focus (((try dsimp only); repeat (first | omega | simp only [World.size_alloc, World.size_setCell, World.size_drew] | (with_reducible refine le_ext_of ?_) | (with_reducible refine le_ext_add ?_))); done)) | (with_reducible refine Below.drew ?_)))) HW12.out.size)))).mono ?_; rintro e w1 ⟨p52, c52, rfl, hI9, y8, rfl⟩; (try simp only [ext_ext] at hI9); have HI52_13 := Lib.hid hI9; clear hI9))
  generalize hE13 : ext V12 (y9.comp y8) = V13 at *
  have hB13 : Below V12.heap.size V12 V13 := by rw [← hE13]; (repeat (first | (with_reducible exact Below.refl _ _) | (with_reducible assumption) | ((with_reducible refine below_ext_trans ?_ ?_ _); rotate_left; focus (((try dsimp only); repeat (first | omega | simp only [World.size_alloc, World.size_setCell, World.size_drew] | (with_reducible refine le_ext_of ?_) | (with_reducible refine le_ext_add ?_))); done)) | ((with_reducible refine Below.alloc ?_ ?_ _); rotate_left; focus (((try dsimp only); repeat (first | omega | simp only [World.size_alloc, World.size_setCell, World.size_drew] | (with_reducible refine le_ext_of ?_) | (with_reducible refine le_ext_add ?_))); done)) | ((with_reducible refine Below.setCell ?_ ?_ _); rotate_left; focus (((try dsimp only); repeat (first | omega | simp only [World.size_alloc, World.size_setCell, World.size_drew] | (with_reducible refine le_ext_of ?_) | (with_reducible refine le_ext_add ?_))); done)) | (with_reducible refine Below.drew ?_)))
  clear hE13
  have HW13 := Lib.hid (HW12.out.trans (hB13.mono HW12.out.size))
  have HI50_13 := Lib.hid (HI50_12.out.below hB13)
  have HI51_13 := Lib.hid (HI51_12.out.below hB13)
  clear hB13 HW12 HI50_12 HI51_12
  try clear HBK HCP
  go_upto_region 54 with (first
    | (go_at_call 40; refine (own_any _).mono ?_; rintro e w1 ⟨h9, rfl, hb9, hc9, y9, rfl⟩; have HBK := Lib.hid hb9; have HCP := Lib.hid hc9; clear hb9 hc9)
    | (go_at_call 29; refine (own_hangs1 h9 _ (HBK.out.below (by (repeat (first | (with_reducible exact Below.refl _ _) | (with_reducible assumption) | ((with_reducible refine below_ext_trans ?_ ?_ _); rotate_left; focus (((try dsimp only); repeat (first | omega | simp only [World.size_alloc, World.size_setCell, World.size_drew] | (with_reducible refine le_ext_of ?_) | (with_reducible refine le_ext_add ?_))); done)) | ((with_reducible refine Below.alloc ?_ ?_ _); rotate_left; focus (((try dsimp only); repeat (first | omega | simp only [World.size_alloc, World.size_setCell, World.size_drew] | (with_reducible refine le_ext_of ?_) | (with_reducible refine le_ext_add ?_))); done)) | ((with_reducible refine Below.setCell ?_ ?_ _); rotate_left; focus (((try dsimp only); repeat (first | omega | simp only [World.size_alloc, World.size_setCell, World.size_drew] | (with_reducible refine le_ext_of ?_) | (with_reducible refine le_ext_add ?_))); done)) | (with_reducible refine Below.drew ?_))))) (HN.out.below (HW13.out.trans (Below.mono (by (repeat (first | (with_reducible exact Below.refl _ _) | (with_reducible assumption) | ((with_reducible refine below_ext_trans ?_ ?_ _); rotate_left; focus (((try dsimp only); repeat (first | omega | simp only [World.size_alloc, World.size_setCell, World.size_drew] | (with_reducible refine le_ext_of ?_) | (with_reducible refine le_ext_add ?_))); done)) | ((with_reducible refine Below.alloc ?_ ?_ _); rotate_left; focus (((try dsimp only); repeat (first | omega | simp only [World.size_alloc, World.size_setCell, World.size_drew] | (with_reducible refine le_ext_of ?_) | (with_reducible refine le_ext_add ?_))); done)) | ((with_reducible refine Below.setCell ?_ ?_ _); rotate_left; focus (((try dsimp only); repeat (first | omega | simp only [World.size_alloc, World.size_setCell, World.size_drew] | (with_reducible refine le_ext_of ?_) | (with_reducible refine le_ext_add ?_))); done)) | (with_reducible refine Below.drew ?_)))) HW13.out.size)))).mono ?_; rintro e w1 ⟨p53, c53, rfl, hI9, y8, rfl⟩; (try simp only [ext_ext] at hI9); have HI53_14 := Lib.hid hI9; clear hI9))
  generalize hE14 : ext V13 (y9.comp y8) = V14 at *
  have hB14 : Below V13.heap.size V13 V14 := by rw [← hE14]; (repeat (first | (with_reducible exact Below.refl _ _) | (with_reducible assumption) | ((with_reducible refine below_ext_trans ?_ ?_ _); rotate_left; focus (((try dsimp only); repeat (first | omega | simp only [World.size_alloc, World.size_setCell, World.size_drew] | (with_reducible refine le_ext_of ?_) | (with_reducible refine le_ext_add ?_))); done)) | ((with_reducible refine Below.alloc ?_ ?_ _); rotate_left; focus (((try dsimp only); repeat (first | omega | simp only [World.size_alloc, World.size_setCell, World.size_drew] | (with_reducible refine le_ext_of ?_) | (with_reducible refine le_ext_add ?_))); done)) | ((with_reducible refine Below.setCell ?_ ?_ _); rotate_left; focus (((try dsimp only); repeat (first | omega | simp only [World.size_alloc, World.size_setCell, World.size_drew] | (with_reducible refine le_ext_of ?_) | (with_reducible refine le_ext_add ?_))); done)) | (with_reducible refine Below.drew ?_)))
  clear hE14
  have HW14 := Lib.hid (HW13.out.trans (hB14.mono HW13.out.size))
  have HI50_14 := Lib.hid (HI50_13.out.below hB14)
  have HI51_14 := Lib.hid (HI51_13.out.below hB14)
  have HI52_14 := Lib.hid (HI52_13.out.below hB14)
  clear hB14 HW13 HI50_13 HI51_13 HI52_13
  try clear HBK HCP
  go_upto_region 55 with (first
    | (go_at_call 40; refine (own_any _).mono ?_; rintro e w1 ⟨h9, rfl, hb9, hc9, y9, rfl⟩; have HBK := Lib.hid hb9; have HCP := Lib.hid hc9; clear hb9 hc9)
    | (go_at_call 34; refine (own_sure h9 _ (HBK.out.below (by (repeat (first | (with_reducible exact Below.refl _ _) | (with_reducible assumption) | ((with_reducible refine below_ext_trans ?_ ?_ _); rotate_left; focus (((try dsimp only); repeat (first | omega | simp only [World.size_alloc, World.size_setCell, World.size_drew] | (with_reducible refine le_ext_of ?_) | (with_reducible refine le_ext_add ?_))); done)) | ((with_reducible refine Below.alloc ?_ ?_ _); rotate_left; focus (((try dsimp only); repeat (first | omega | simp only [World.size_alloc, World.size_setCell, World.size_drew] | (with_reducible refine le_ext_of ?_) | (with_reducible refine le_ext_add ?_))); done)) | ((with_reducible refine Below.setCell ?_ ?_ _); rotate_left; focus (((try dsimp only); repeat (first | omega | simp only [World.size_alloc, World.size_setCell, World.size_drew] | (with_reducible refine le_ext_of ?_) | (with_reducible refine le_ext_add ?_))); done)) | (with_reducible refine Below.drew ?_))))) (HN.out.below (HW14.out.trans (Below.mono (by (repeat (first | (with_reducible exact Below.refl _ _) | (with_reducible assumption) | ((with_reducible refine below_ext_trans ?_ ?_ _); rotate_left; focus (((try dsimp only); repeat (first | omega | simp only [World.size_alloc, World.size_setCell, World.size_drew] | (with_reducible refine le_ext_of ?_) | (with_reducible refine le_ext_add ?_))); done)) | ((with_reducible refine Below.alloc ?_ ?_ _); rotate_left; focus (((try dsimp only); repeat (first | omega | simp only [World.size_alloc, World.size_setCell, World.size_drew] | (with_reducible refine le_ext_of ?_) | (with_reducible refine le_ext_add ?_))); done)) | ((with_reducible refine Below.setCell ?_ ?_ _); rotate_left; focus (((try dsimp only); repeat (first | omega | simp only [World.size_alloc, World.size_setCell, World.size_drew] | (with_reducible refine le_ext_of ?_) | (with_reducible refine le_ext_add ?_))); done)) | (with_reducible refine Below.drew ?_)))) HW14.out.size)))).mono ?_; rintro e w1 ⟨p54, c54, rfl, hI9, y8, rfl⟩; (try simp only [ext_ext] at hI9); have HI54_15 := Lib.hid hI9; clear hI9))
  generalize hE15 : ext V14 (y9.comp y8) = V15 at *
  have hB15 : Below V14.heap.size V14 V15 := by rw [← hE15]; (repeat (first | (with_reducible exact Below.refl _ _) | (with_reducible assumption) | ((with_reducible refine below_ext_trans ?_ ?_ _); rotate_left; focus (((try dsimp only); repeat (first | omega | simp only [World.size_alloc, World.size_setCell, World.size_drew] | (with_reducible refine le_ext_of ?_) | (with_reducible refine le_ext_add ?_))); done)) | ((with_reducible refine Below.alloc ?_ ?_ _); rotate_left; focus (((try dsimp only); repeat (first | omega | simp only [World.size_alloc, World.size_setCell, World.size_drew] | (with_reducible refine le_ext_of ?_) | (with_reducible refine le_ext_add ?_))); done)) | ((with_reducible refine Below.setCell ?_ ?_ _); rotate_left; focus (((try dsimp only); repeat (first | omega | simp only [World.size_alloc, World.size_setCell, World.size_drew] | (with_reducible refine le_ext_of ?_) | (with_reducible refine le_ext_add ?_))); done)) | (with_reducible refine Below.drew ?_)))
  clear hE15
  have HW15 := Lib.hid (HW14.out.trans (hB15.mono HW14.out.size))
  have HI50_15 := Lib.hid (HI50_14.out.below hB15)
  have HI51_15 := Lib.hid (HI51_14.out.below hB15)
  have HI52_15 := Lib.hid (HI52_14.out.below hB15)
  have HI53_15 := Lib.hid (HI53_14.out.below hB15)
  clear hB15 HW14 HI50_14 HI51_14 HI52_14 HI53_14
  try clear HBK HCP
  go_upto_region 56 with (first
    | (go_at_call 40; refine (own_any _).mono ?_; rintro e w1 ⟨h9, rfl, hb9, hc9, y9, rfl⟩; have HBK := Lib.hid hb9; have HCP := Lib.hid hc9; clear hb9 hc9)
    | (go_at_call 21; refine (own_wrong h9 _ (HBK.out.below (by (repeat (first | (with_reducible exact Below.refl _ _) | (with_reducible assumption) | ((with_reducible refine below_ext_trans ?_ ?_ _); rotate_left; focus (((try dsimp only); repeat (first | omega | simp only [World.size_alloc, World.size_setCell, World.size_drew] | (with_reducible refine le_ext_of ?_) | (with_reducible refine le_ext_add ?_))); done)) | ((with_reducible refine Below.alloc ?_ ?_ _); rotate_left; focus (((try dsimp only); repeat (first | omega | simp only [World.size_alloc, World.size_setCell, World.size_drew] | (with_reducible refine le_ext_of ?_) | (with_reducible refine le_ext_add ?_))); done)) | ((with_reducible refine Below.setCell ?_ ?_ _); rotate_left; focus (((try dsimp only); repeat (first | omega | simp only [World.size_alloc, World.size_setCell, World.size_drew] | (with_reducible refine le_ext_of ?_) | (with_reducible refine le_ext_add ?_))); done)) | (with_reducible refine Below.drew ?_))))) (HN.out.below (HW15.out.trans (Below.mono (by (repeat (first | (with_reducible exact Below.refl _ _) | (with_reducible assumption) | ((with_reducible refine below_ext_trans ?_ ?_ _); rotate_left; focus (((try dsimp only); repeat (first | omega | simp only [World.size_alloc, World.size_setCell, World.size_drew] | (with_reducible refine le_ext_of ?_) | (with_reducible refine le_ext_add ?_))); done)) | ((with_reducible refine Below.alloc ?_ ?_ _); rotate_left; focus (((try dsimp only); repeat (first | omega | simp only [World.size_alloc, World.size_setCell, World.size_drew] | (with_reducible refine le_ext_of ?_) | (with_reducible refine le_ext_add ?_))); done)) | ((with_reducible refine Below.setCell ?_ ?_ _); rotate_left; focus (((try dsimp only); repeat (first | omega | simp only [World.size_alloc, World.size_setCell, World.size_drew] | (with_reducible refine le_ext_of ?_) | (with_reducible refine le_ext_add ?_))); done)) | (with_reducible refine Below.drew ?_)))) HW15.out.size)))).mono ?_; rintro e w1 ⟨p55, c55, rfl, hI9, y8, rfl⟩; (try simp only [ext_ext] at hI9); have HI55_16 := Lib.hid hI9; clear hI9))
  generalize hE16 : ext V15 (y9.comp y8) = V16 at *
  have hB16 : Below V15.heap.size V15 V16 := by rw [← hE16]; (repeat (first | (with_reducible exact Below.refl _ _) | (with_reducible assumption) | ((with_reducible refine below_ext_trans ?_ ?_ _); rotate_left; focus (((try dsimp only); repeat (first | omega | simp only [World.size_alloc, World.size_setCell, World.size_drew] | (with_reducible refine le_ext_of ?_) | (with_reducible refine le_ext_add ?_))); done)) | ((with_reducible refine Below.alloc ?_ ?_ _); rotate_left; focus (((try dsimp only); repeat (first | omega | simp only [World.size_alloc, World.size_setCell, World.size_drew] | (with_reducible refine le_ext_of ?_) | (with_reducible refine le_ext_add ?_))); done)) | ((with_reducible refine Below.setCell ?_ ?_ _); rotate_left; focus (((try dsimp only); repeat (first | omega | simp only [World.size_alloc, World.size_setCell, World.size_drew] | (with_reducible refine le_ext_of ?_) | (with_reducible refine le_ext_add ?_))); done)) | (with_reducible refine Below.drew ?_)))
  clear hE16
  have HW16 := Lib.hid (HW15.out.trans (hB16.mono HW15.out.size))
  have HI50_16 := Lib.hid (HI50_15.out.below hB16)
  have HI51_16 := Lib.hid (HI51_15.out.below hB16)
  have HI52_16 := Lib.hid (HI52_15.out.below hB16)
  have HI53_16 := Lib.hid (HI53_15.out.below hB16)
  have HI54_16 := Lib.hid (HI54_15.out.below hB16)
  clear hB16 HW15 HI50_15 HI51_15 HI52_15 HI53_15 HI54_15
  try clear HBK HCP
  go_upto_region 57 with (first
    | (go_at_call 40; refine (own_any _).mono ?_; rintro e w1 ⟨h9, rfl, hb9, hc9, y9, rfl⟩; have HBK := Lib.hid hb9; have HCP := Lib.hid hc9; clear hb9 hc9)
    | (go_at_call 38; refine (own_learn h9 _ (HBK.out.below (by (repeat (first | (with_reducible exact Below.refl _ _) | (with_reducible assumption) | ((with_reducible refine below_ext_trans ?_ ?_ _); rotate_left; focus (((try dsimp only); repeat (first | omega | simp only [World.size_alloc, World.size_setCell, World.size_drew] | (with_reducible refine le_ext_of ?_) | (with_reducible refine le_ext_add ?_))); done)) | ((with_reducible refine Below.alloc ?_ ?_ _); rotate_left; focus (((try dsimp only); repeat (first | omega | simp only [World.size_alloc, World.size_setCell, World.size_drew] | (with_reducible refine le_ext_of ?_) | (with_reducible refine le_ext_add ?_))); done)) | ((with_reducible refine Below.setCell ?_ ?_ _); rotate_left; focus (((try dsimp only); repeat (first | omega | simp only [World.size_alloc, World.size_setCell, World.size_drew] | (with_reducible refine le_ext_of ?_) | (with_reducible refine le_ext_add ?_))); done)) | (with_reducible refine Below.drew ?_))))) (HN.out.below (HW16.out.trans (Below.mono (by (repeat (first | (with_reducible exact Below.refl _ _) | (with_reducible assumption) | ((with_reducible refine below_ext_trans ?_ ?_ _); rotate_left; focus (((try dsimp only); repeat (first | omega | simp only [World.size_alloc, World.size_setCell, World.size_drew] | (with_reducible refine le_ext_of ?_) | (with_reducible refine le_ext_add ?_))); done)) | ((with_reducible refine Below.alloc ?_ ?_ _); rotate_left; focus (((try dsimp only); repeat (first | omega | simp only [World.size_alloc, World.size_setCell, World.size_drew] | (with_reducible refine le_ext_of ?_) | (with_reducible refine le_ext_add ?_))); done)) | ((with_reducible refine Below.setCell ?_ ?_ _); rotate_left; focus (((try dsimp only); repeat (first | omega | simp only [World.size_alloc, World.size_setCell, World.size_drew] | (with_reducible refine le_ext_of ?_) | (with_reducible refine le_ext_add ?_))); done)) | (with_reducible refine Below.drew ?_)))) HW16.out.size))) HCP.out).mono ?_; rintro e w1 ⟨rfl, y8, rfl⟩))
  generalize hE17 : ext V16 (y9.comp y8) = V17 at *
  have hB17 : Below V16.heap.size V16 V17 := by rw [← hE17]; (repeat (first | (with_reducible exact Below.refl _ _) | (with_reducible assumption) | ((with_reducible refine below_ext_trans ?_ ?_ _); rotate_left; focus (((try dsimp only); repeat (first | omega | simp only [World.size_alloc, World.size_setCell, World.size_drew] | (with_reducible refine le_ext_of ?_) | (with_reducible refine le_ext_add ?_))); done)) | ((with_reducible refine Below.alloc ?_ ?_ _); rotate_left; focus (((try dsimp only); repeat (first | omega | simp only [World.size_alloc, World.size_setCell, World.size_drew] | (with_reducible refine le_ext_of ?_) | (with_reducible refine le_ext_add ?_))); done)) | ((with_reducible refine Below.setCell ?_ ?_ _); rotate_left; focus (((try dsimp only); repeat (first | omega | simp only [World.size_alloc, World.size_setCell, World.size_drew] | (with_reducible refine le_ext_of ?_) | (with_reducible refine le_ext_add ?_))); done)) | (with_reducible refine Below.drew ?_)))
  clear hE17
  have HW17 := Lib.hid (HW16.out.trans (hB17.mono HW16.out.size))
  have HI50_17 := Lib.hid (HI50_16.out.below hB17)
  have HI51_17 := Lib.hid (HI51_16.out.below hB17)
  have HI52_17 := Lib.hid (HI52_16.out.below hB17)
  have HI53_17 := Lib.hid (HI53_16.out.below hB17)
  have HI54_17 := Lib.hid (HI54_16.out.below hB17)
  have HI55_17 := Lib.hid (HI55_16.out.below hB17)
  clear hB17 HW16 HI50_16 HI51_16 HI52_16 HI53_16 HI54_16 HI55_16
  try clear HBK HCP
  go_upto_region 58 with (first
    | (go_at_call 40; refine (own_any _).mono ?_; rintro e w1 ⟨h9, rfl, hb9, hc9, y9, rfl⟩; have HBK := Lib.hid hb9; have HCP := Lib.hid hc9; clear hb9 hc9)
    | (go_at_call 37; refine (own_first1 h9 _ (HBK.out.below (by (repeat (first | (with_reducible exact Below.refl _ _) | (with_reducible assumption) | ((with_reducible refine below_ext_trans ?_ ?_ _); rotate_left; focus (((try dsimp only); repeat (first | omega | simp only [World.size_alloc, World.size_setCell, World.size_drew] | (with_reducible refine le_ext_of ?_) | (with_reducible refine le_ext_add ?_))); done)) | ((with_reducible refine Below.alloc ?_ ?_ _); rotate_left; focus (((try dsimp only); repeat (first | omega | simp only [World.size_alloc, World.size_setCell, World.size_drew] | (with_reducible refine le_ext_of ?_) | (with_reducible refine le_ext_add ?_))); done)) | ((with_reducible refine Below.setCell ?_ ?_ _); rotate_left; focus (((try dsimp only); repeat (first | omega | simp only [World.size_alloc, World.size_setCell, World.size_drew] | (with_reducible refine le_ext_of ?_) | (with_reducible refine le_ext_add ?_))); done)) | (with_reducible refine Below.drew ?_))))) (HN.out.below (HW17.out.trans (Below.mono (by (repeat (first | (with_reducible exact Below.refl _ _) | (with_reducible assumption) | ((with_reducible refine below_ext_trans ?_ ?_ _); rotate_left; focus (((try dsimp only); repeat (first | omega | simp only [World.size_alloc, World.size_setCell, World.size_drew] | (with_reducible refine le_ext_of ?_) | (with_reducible refine le_ext_add ?_))); done)) | ((with_reducible refine Below.alloc ?_ ?_ _); rotate_left; focus (((try dsimp only); repeat (first | omega | simp only [World.size_alloc, World.size_setCell, World.size_drew] | (with_reducible refine le_ext_of ?_) | (with_reducible refine le_ext_add ?_))); done)) | ((with_reducible refine Below.setCell ?_ ?_ _); rotate_left; focus (((try dsimp only); repeat (first | omega | simp only [World.size_alloc, World.size_setCell, World.size_drew] | (with_reducible refine le_ext_of ?_) | (with_reducible refine le_ext_add ?_))); done)) | (with_reducible refine Below.drew ?_)))) HW17.out.size)))).mono ?_; rintro e w1 ⟨rfl, y8, rfl⟩))
  generalize hE18 : ext V17 (y9.comp y8) = V18 at *
  have hB18 : Below V17.heap.size V17 V18 := by rw [← hE18]; (repeat (first | (with_reducible exact Below.refl _ _) | (with_reducible assumption) | ((with_reducible refine below_ext_trans ?_ ?_ _); rotate_left; focus (((try dsimp only); repeat (first | omega | simp only [World.size_alloc, World.size_setCell, World.size_drew] | (with_reducible refine le_ext_of ?_) | (with_reducible refine le_ext_add ?_))); done)) | ((with_reducible refine Below.alloc ?_ ?_ _); rotate_left; focus (((try dsimp only); repeat (first | omega | simp only [World.size_alloc, World.size_setCell, World.size_drew] | (with_reducible refine le_ext_of ?_) | (with_reducible refine le_ext_add ?_))); done)) | ((with_reducible refine Below.setCell ?_ ?_ _); rotate_left; focus (((try dsimp only); repeat (first | omega | simp only [World.size_alloc, World.size_setCell, World.size_drew] | (with_reducible refine le_ext_of ?_) | (with_reducible refine le_ext_add ?_))); done)) | (with_reducible refine Below.drew ?_)))
  clear hE18
  have HW18 := Lib.hid (HW17.out.trans (hB18.mono HW17.out.size))
  have HI50_18 := Lib.hid (HI50_17.out.below hB18)
  have HI51_18 := Lib.hid (HI51_17.out.below hB18)
  have HI52_18 := Lib.hid (HI52_17.out.below hB18)
  have HI53_18 := Lib.hid (HI53_17.out.below hB18)
  have HI54_18 := Lib.hid (HI54_17.out.below hB18)
  have HI55_18 := Lib.hid (HI55_17.out.below hB18)
  clear hB18 HW17 HI50_17 HI51_17 HI52_17 HI53_17 HI54_17 HI55_17
  try clear HBK HCP
  go_upto_region 59 with (first
    | (go_at_call 40; refine (own_any _).mono ?_; rintro e w1 ⟨h9, rfl, hb9, hc9, y9, rfl⟩; have HBK := Lib.hid hb9; have HCP := Lib.hid hc9; clear hb9 hc9)
    | (go_at_call 37; refine (own_first2 h9 _ (HBK.out.below (by (repeat (first | (with_reducible exact Below.refl _ _) | (with_reducible assumption) | ((with_reducible refine below_ext_trans ?_ ?_ _); rotate_left; focus (((try dsimp only); repeat (first | omega | simp only [World.size_alloc, World.size_setCell, World.size_drew] | (with_reducible refine le_ext_of ?_) | (with_reducible refine le_ext_add ?_))); done)) | ((with_reducible refine Below.alloc ?_ ?_ _); rotate_left; focus (((try dsimp only); repeat (first | omega | simp only [World.size_alloc, World.size_setCell, World.size_drew] | (with_reducible refine le_ext_of ?_) | (with_reducible refine le_ext_add ?_))); done)) | ((with_reducible refine Below.setCell ?_ ?_ _); rotate_left; focus (((try dsimp only); repeat (first | omega | simp only [World.size_alloc, World.size_setCell, World.size_drew] | (with_reducible refine le_ext_of ?_) | (with_reducible refine le_ext_add ?_))); done)) | (with_reducible refine Below.drew ?_))))) (HN.out.below (HW18.out.trans (Below.mono (by (repeat (first | (with_reducible exact Below.refl _ _) | (with_reducible assumption) | ((with_reducible refine below_ext_trans ?_ ?_ _); rotate_left; focus (((try dsimp only); repeat (first | omega | simp only [World.size_alloc, World.size_setCell, World.size_drew] | (with_reducible refine le_ext_of ?_) | (with_reducible refine le_ext_add ?_))); done)) | ((with_reducible refine Below.alloc ?_ ?_ _); rotate_left; focus (((try dsimp only); repeat (first | omega | simp only [World.size_alloc, World.size_setCell, World.size_drew] | (with_reducible refine le_ext_of ?_) | (with_reducible refine le_ext_add ?_))); done)) | ((with_reducible refine Below.setCell ?_ ?_ _); rotate_left; focus (((try dsimp only); repeat (first | omega | simp only [World.size_alloc, World.size_setCell, World.size_drew] | (with_reducible refine le_ext_of ?_) | (with_reducible refine le_ext_add ?_))); done)) | (with_reducible refine Below.drew ?_)))) HW18.out.size)))).mono ?_; rintro e w1 ⟨rfl, y8, rfl⟩))
  generalize hE19 : ext V18 (y9.comp y8) = V19 at *
  have hB19 : Below V18.heap.size V18 V19 := by rw [← hE19]; (repeat (first | (with_reducible exact Below.refl _ _) | (with_reducible assumption) | ((with_reducible refine below_ext_trans ?_ ?_ _); rotate_left; focus (((try dsimp only); repeat (first | omega | simp only [World.size_alloc, World.size_setCell, World.size_drew] | (with_reducible refine le_ext_of ?_) | (with_reducible refine le_ext_add ?_))); done)) | ((with_reducible refine Below.alloc ?_ ?_ _); rotate_left; focus (((try dsimp only); repeat (first | omega | simp only [World.size_alloc, World.size_setCell, World.size_drew] | (with_reducible refine le_ext_of ?_) | (with_reducible refine le_ext_add ?_))); done)) | ((with_reducible refine Below.setCell ?_ ?_ _); rotate_left; focus (((try dsimp only); repeat (first | omega | simp only [World.size_alloc, World.size_setCell, World.size_drew] | (with_reducible refine le_ext_of ?_) | (with_reducible refine le_ext_add ?_))); done)) | (with_reducible refine Below.drew ?_)))
  clear hE19
  have HW19 := Lib.hid (HW18.out.trans (hB19.mono HW18.out.size))
  have HI50_19 := Lib.hid (HI50_18.out.below hB19)
  have HI51_19 := Lib.hid (HI51_18.out.below hB19)
  have HI52_19 := Lib.hid (HI52_18.out.below hB19)
  have HI53_19 := Lib.hid (HI53_18.out.below hB19)
  have HI54_19 := Lib.hid (HI54_18.out.below hB19)
  have HI55_19 := Lib.hid (HI55_18.out.below hB19)
  clear hB19 HW18 HI50_18 HI51_18 HI52_18 HI53_18 HI54_18 HI55_18
  try clear HBK HCP
  go_upto_region 60 with fail
  generalize hE9 : ((V19.alloc _).alloc _).alloc _ = V20
  have hB20 : Below V19.heap.size V19 V20 := by rw [← hE9]; (repeat (first | (with_reducible exact Below.refl _ _) | (with_reducible assumption) | ((with_reducible refine below_ext_trans ?_ ?_ _); rotate_left; focus (((try dsimp only); repeat (first | omega | simp only [World.size_alloc, World.size_setCell, World.size_drew] | (with_reducible refine le_ext_of ?_) | (with_reducible refine le_ext_add ?_))); done)) | ((with_reducible refine Below.alloc ?_ ?_ _); rotate_left; focus (((try dsimp only); repeat (first | omega | simp only [World.size_alloc, World.size_setCell, World.size_drew] | (with_reducible refine le_ext_of ?_) | (with_reducible refine le_ext_add ?_))); done)) | ((with_reducible refine Below.setCell ?_ ?_ _); rotate_left; focus (((try dsimp only); repeat (first | omega | simp only [World.size_alloc, World.size_setCell, World.size_drew] | (with_reducible refine le_ext_of ?_) | (with_reducible refine le_ext_add ?_))); done)) | (with_reducible refine Below.drew ?_)))
  have k1 : Blk V20 V19.heap.size 3 #[.int .i64 0] := by rw [← hE9]; exact ((Blk.new rfl).alloc _).alloc _
  have k2 : Blk V20 (V19.heap.size + 1) 28 #[.slice (some ⟨V19.heap.size, 0, none⟩) 1 1] := by rw [← hE9]; exact (Blk.new (by simp)).alloc _
  have k3 : Blk V20 (V19.heap.size + 1 + 1) 26 #[.int .i64 1, .slice none 0 0, .slice (some ⟨V19.heap.size + 1, 0, none⟩) 1 1, .slice none 0 0] := by rw [← hE9]; exact Blk.new (by simp)
  have BAR20 := Lib.hid (bare_at k1 k2)
  have KB9 := Lib.hid k3
  have HW20 := Lib.hid (HW19.out.trans (hB20.mono HW19.out.size))
  have HI50_20 := Lib.hid (HI50_19.out.below hB20)
  have HI51_20 := Lib.hid (HI51_19.out.below hB20)
  have HI52_20 := Lib.hid (HI52_19.out.below hB20)
  have HI53_20 := Lib.hid (HI53_19.out.below hB20)
  have HI54_20 := Lib.hid (HI54_19.out.below hB20)
  have HI55_20 := Lib.hid (HI55_19.out.below hB20)
  clear hE9 k1 k2 HW19 HI50_19 HI51_19 HI52_19 HI53_19 HI54_19 HI55_19
  have c0 := KB9.out.cell 0
  have c1 := KB9.out.cell 1
  have c2 := KB9.out.cell 2
  have c3 := KB9.out.cell 3
  simp only [List.size_toArray, List.length_cons, List.length_nil, Nat.reduceAdd, Nat.reduceLT, getElem?_pos, List.getElem_toArray, List.getElem_cons_zero, List.getElem_cons_succ] at c0 c1 c2 c3
  have kl := KB9.out.lt
  clear hB20
  go_upto_region 61 with (go_at_call 34; refine (bare_sure' _ _ _ (BAR20.out.below (by (repeat (first | (with_reducible exact Below.refl _ _) | (with_reducible assumption) | ((with_reducible refine below_ext_trans ?_ ?_ _); rotate_left; focus (((try dsimp only); repeat (first | omega | simp only [World.size_alloc, World.size_setCell, World.size_drew] | (with_reducible refine le_ext_of ?_) | (with_reducible refine le_ext_add ?_))); done)) | ((with_reducible refine Below.alloc ?_ ?_ _); rotate_left; focus (((try dsimp only); repeat (first | omega | simp only [World.size_alloc, World.size_setCell, World.size_drew] | (with_reducible refine le_ext_of ?_) | (with_reducible refine le_ext_add ?_))); done)) | ((with_reducible refine Below.setCell ?_ ?_ _); rotate_left; focus (((try dsimp only); repeat (first | omega | simp only [World.size_alloc, World.size_setCell, World.size_drew] | (with_reducible refine le_ext_of ?_) | (with_reducible refine le_ext_add ?_))); done)) | (with_reducible refine Below.drew ?_))))) (HN.out.below (HW20.out.trans (Below.mono (by (repeat (first | (with_reducible exact Below.refl _ _) | (with_reducible assumption) | ((with_reducible refine below_ext_trans ?_ ?_ _); rotate_left; focus (((try dsimp only); repeat (first | omega | simp only [World.size_alloc, World.size_setCell, World.size_drew] | (with_reducible refine le_ext_of ?_) | (with_reducible refine le_ext_add ?_))); done)) | ((with_reducible refine Below.alloc ?_ ?_ _); rotate_left; focus (((try dsimp only); repeat (first | omega | simp only [World.size_alloc, World.size_setCell, World.size_drew] | (with_reducible refine le_ext_of ?_) | (with_reducible refine le_ext_add ?_))); done)) | ((with_reducible refine Below.setCell ?_ ?_ _); rotate_left; focus (((try dsimp only); repeat (first | omega | simp only [World.size_alloc, World.size_setCell, World.size_drew] | (with_reducible refine le_ext_of ?_) | (with_reducible refine le_ext_add ?_))); done)) | (with_reducible refine Below.drew ?_)))) HW20.out.size)))).mono ?_; rintro e w1 ⟨p60, c60, rfl, hI9, y8, rfl⟩; (try simp only [ext_ext] at hI9); have HI60_21 := Lib.hid hI9; clear hI9)
  clear c0 c1 c2 c3 kl
  generalize hE21 : ext V20 y8 = V21 at *
  have KB9x := Lib.hid (KB9.out.bel (show Below V20.heap.size V20 V21 by rw [← hE21]; (repeat (first | (with_reducible exact Below.refl _ _) | (with_reducible assumption) | ((with_reducible refine below_ext_trans ?_ ?_ _); rotate_left; focus (((try dsimp only); repeat (first | omega | simp only [World.size_alloc, World.size_setCell, World.size_drew] | (with_reducible refine le_ext_of ?_) | (with_reducible refine le_ext_add ?_))); done)) | ((with_reducible refine Below.alloc ?_ ?_ _); rotate_left; focus (((try dsimp only); repeat (first | omega | simp only [World.size_alloc, World.size_setCell, World.size_drew] | (with_reducible refine le_ext_of ?_) | (with_reducible refine le_ext_add ?_))); done)) | ((with_reducible refine Below.setCell ?_ ?_ _); rotate_left; focus (((try dsimp only); repeat (first | omega | simp only [World.size_alloc, World.size_setCell, World.size_drew] | (with_reducible refine le_ext_of ?_) | (with_reducible refine le_ext_add ?_))); done)) | (with_reducible refine Below.drew ?_)))))
  clear KB9
  have KB9 := KB9x
  clear KB9x
  have hB21 : Below V20.heap.size V20 V21 := by rw [← hE21]; (repeat (first | (with_reducible exact Below.refl _ _) | (with_reducible assumption) | ((with_reducible refine below_ext_trans ?_ ?_ _); rotate_left; focus (((try dsimp only); repeat (first | omega | simp only [World.size_alloc, World.size_setCell, World.size_drew] | (with_reducible refine le_ext_of ?_) | (with_reducible refine le_ext_add ?_))); done)) | ((with_reducible refine Below.alloc ?_ ?_ _); rotate_left; focus (((try dsimp only); repeat (first | omega | simp only [World.size_alloc, World.size_setCell, World.size_drew] | (with_reducible refine le_ext_of ?_) | (with_reducible refine le_ext_add ?_))); done)) | ((with_reducible refine Below.setCell ?_ ?_ _); rotate_left; focus (((try dsimp only); repeat (first | omega | simp only [World.size_alloc, World.size_setCell, World.size_drew] | (with_reducible refine le_ext_of ?_) | (with_reducible refine le_ext_add ?_))); done)) | (with_reducible refine Below.drew ?_)))
  clear hE21
  have HW21 := Lib.hid (HW20.out.trans (hB21.mono HW20.out.size))
  have HI50_21 := Lib.hid (HI50_20.out.below hB21)
  have HI51_21 := Lib.hid (HI51_20.out.below hB21)
  have HI52_21 := Lib.hid (HI52_20.out.below hB21)
  have HI53_21 := Lib.hid (HI53_20.out.below hB21)
  have HI54_21 := Lib.hid (HI54_20.out.below hB21)
  have HI55_21 := Lib.hid (HI55_20.out.below hB21)
  have BAR21 := Lib.hid (BAR20.out.below hB21)
  clear hB21 HW20 HI50_20 HI51_20 HI52_20 HI53_20 HI54_20 HI55_20 BAR20
  try clear HBK HCP
  have c0 := KB9.out.cell 0
  have c1 := KB9.out.cell 1
  have c2 := KB9.out.cell 2
  have c3 := KB9.out.cell 3
  simp only [List.size_toArray, List.length_cons, List.length_nil, Nat.reduceAdd, Nat.reduceLT, getElem?_pos, List.getElem_toArray, List.getElem_cons_zero, List.getElem_cons_succ] at c0 c1 c2 c3
  have kl := KB9.out.lt
  go_upto_region 62 with (go_at_call 38; refine (bare_learn' _ _ _ (BAR21.out.below (by (repeat (first | (with_reducible exact Below.refl _ _) | (with_reducible assumption) | ((with_reducible refine below_ext_trans ?_ ?_ _); rotate_left; focus (((try dsimp only); repeat (first | omega | simp only [World.size_alloc, World.size_setCell, World.size_drew] | (with_reducible refine le_ext_of ?_) | (with_reducible refine le_ext_add ?_))); done)) | ((with_reducible refine Below.alloc ?_ ?_ _); rotate_left; focus (((try dsimp only); repeat (first | omega | simp only [World.size_alloc, World.size_setCell, World.size_drew] | (with_reducible refine le_ext_of ?_) | (with_reducible refine le_ext_add ?_))); done)) | ((with_reducible refine Below.setCell ?_ ?_ _); rotate_left; focus (((try dsimp only); repeat (first | omega | simp only [World.size_alloc, World.size_setCell, World.size_drew] | (with_reducible refine le_ext_of ?_) | (with_reducible refine le_ext_add ?_))); done)) | (with_reducible refine Below.drew ?_))))) (HN.out.below (HW21.out.trans (Below.mono (by (repeat (first | (with_reducible exact Below.refl _ _) | (with_reducible assumption) | ((with_reducible refine below_ext_trans ?_ ?_ _); rotate_left; focus (((try dsimp only); repeat (first | omega | simp only [World.size_alloc, World.size_setCell, World.size_drew] | (with_reducible refine le_ext_of ?_) | (with_reducible refine le_ext_add ?_))); done)) | ((with_reducible refine Below.alloc ?_ ?_ _); rotate_left; focus (((try dsimp only); repeat (first | omega | simp only [World.size_alloc, World.size_setCell, World.size_drew] | (with_reducible refine le_ext_of ?_) | (with_reducible refine le_ext_add ?_))); done)) | ((with_reducible refine Below.setCell ?_ ?_ _); rotate_left; focus (((try dsimp only); repeat (first | omega | simp only [World.size_alloc, World.size_setCell, World.size_drew] | (with_reducible refine le_ext_of ?_) | (with_reducible refine le_ext_add ?_))); done)) | (with_reducible refine Below.drew ?_)))) HW21.out.size)))).mono ?_; rintro e w1 ⟨rfl, y8, rfl⟩)
  clear c0 c1 c2 c3 kl KB9
  generalize hE22 : ext V21 y8 = V22 at *
  have hB22 : Below V21.heap.size V21 V22 := by rw [← hE22]; (repeat (first | (with_reducible exact Below.refl _ _) | (with_reducible assumption) | ((with_reducible refine below_ext_trans ?_ ?_ _); rotate_left; focus (((try dsimp only); repeat (first | omega | simp only [World.size_alloc, World.size_setCell, World.size_drew] | (with_reducible refine le_ext_of ?_) | (with_reducible refine le_ext_add ?_))); done)) | ((with_reducible refine Below.alloc ?_ ?_ _); rotate_left; focus (((try dsimp only); repeat (first | omega | simp only [World.size_alloc, World.size_setCell, World.size_drew] | (with_reducible refine le_ext_of ?_) | (with_reducible refine le_ext_add ?_))); done)) | ((with_reducible refine Below.setCell ?_ ?_ _); rotate_left; focus (((try dsimp only); repeat (first | omega | simp only [World.size_alloc, World.size_setCell, World.size_drew] | (with_reducible refine le_ext_of ?_) | (with_reducible refine le_ext_add ?_))); done)) | (with_reducible refine Below.drew ?_)))
  clear hE22
  have HW22 := Lib.hid (HW21.out.trans (hB22.mono HW21.out.size))
  have HI50_22 := Lib.hid (HI50_21.out.below hB22)
  have HI51_22 := Lib.hid (HI51_21.out.below hB22)
  have HI52_22 := Lib.hid (HI52_21.out.below hB22)
  have HI53_22 := Lib.hid (HI53_21.out.below hB22)
  have HI54_22 := Lib.hid (HI54_21.out.below hB22)
  have HI55_22 := Lib.hid (HI55_21.out.below hB22)
  have BAR22 := Lib.hid (BAR21.out.below hB22)
  have HI60_22 := Lib.hid (HI60_21.out.below hB22)
  clear hB22 HW21 HI50_21 HI51_21 HI52_21 HI53_21 HI54_21 HI55_21 BAR21 HI60_21
  try clear HBK HCP
  have HNL := Lib.hid (HN.out.below HW22.out)
  have LS50 := HI50_22
  have LS51 := HI51_22
  have LS52 := HI52_22
  have LS54 := HI54_22
  have LS60 := HI60_22
  refine wp_region_row 97 548 (lastR p50 p51 p52 p53 p54 p55 p60 c50 c51 c52 c53 c54 c55 c60) (by kernel_rfl) rfl (lastR_kept p50 p51 p52 p53 p54 p55 p60 c50 c51 c52 c53 c54 c55 c60) ?_ ?_
  · intro i hin a W h1 h2 h3 h4 h5 K hK
    have D20 : a.tmps.getD 20 undef = .int .i64 0 := h3 20 (by kernel_rfl)
    have D22 : a.tmps.getD 22 undef = .int .i64 0 := h3 22 (by kernel_rfl)
    have D24 : a.tmps.getD 24 undef = .int .i64 0 := h3 24 (by kernel_rfl)
    have D26 : a.tmps.getD 26 undef = .int .i64 0 := h3 26 (by kernel_rfl)
    have D28 : a.tmps.getD 28 undef = .int .i64 0 := h3 28 (by kernel_rfl)
    have D30 : a.tmps.getD 30 undef = .int .i64 0 := h3 30 (by kernel_rfl)
    have D32 : a.tmps.getD 32 undef = .int .i64 0 := h3 32 (by kernel_rfl)
    have D34 : a.tmps.getD 34 undef = .int .i64 0 := h3 34 (by kernel_rfl)
    have D43 : a.tmps.getD 43 undef = .slice p50 2 c50 := h3 43 (by kernel_rfl)
    have D44 : a.tmps.getD 44 undef = .slice p51 1 c51 := h3 44 (by kernel_rfl)
    have D45 : a.tmps.getD 45 undef = .slice p52 1 c52 := h3 45 (by kernel_rfl)
    have D46 : a.tmps.getD 46 undef = .slice p53 0 c53 := h3 46 (by kernel_rfl)
    have D47 : a.tmps.getD 47 undef = .slice p54 1 c54 := h3 47 (by kernel_rfl)
    have D48 : a.tmps.getD 48 undef = .slice p55 0 c55 := h3 48 (by kernel_rfl)
    have D49 : a.tmps.getD 49 undef = .int .i64 0 := h3 49 (by kernel_rfl)
    have D50 : a.tmps.getD 50 undef = .int .i64 0 := h3 50 (by kernel_rfl)
    have D51 : a.tmps.getD 51 undef = .int .i64 2 := h3 51 (by kernel_rfl)
    have D52 : a.tmps.getD 52 undef = .int .i64 0 := h3 52 (by kernel_rfl)
    have D54 : a.tmps.getD 54 undef = .slice p60 1 c60 := h3 54 (by kernel_rfl)
    have D55 : a.tmps.getD 55 undef = .int .i64 0 := h3 55 (by kernel_rfl)
    have D57 : a.tmps.getD 57 undef = .int .i64 4 := h3 57 (by kernel_rfl)
    clear h3
    match i, hin with
    | 0, _ =>
      exact st_move rfl rfl (wanted_none rfl) D20 (hK _ _ rfl (Below.refl _ _))
    | 1, _ =>
      exact st_eq rfl rfl (wanted_none rfl) (h4 0 (by decide)) (hK _ _ (by rfl) (Below.refl _ _))
    | 2, _ =>
      exact st_move rfl rfl (wanted_none rfl) (h4 1 (by decide)) (hK _ _ rfl (Below.refl _ _))
    | 3, _ =>
      exact st_move rfl rfl (wanted_some (s := 454) rfl rfl (h4 2 (by decide))) D43 (hK _ _ rfl (Below.refl _ _))
    | 4, _ =>
      exact st_valw rfl (wanted_some (s := 454) rfl rfl (h4 2 (by decide))) (run_bs2 _ rfl) (hK _ _ ⟨_, rfl, Blk.new rfl⟩ ((Below.refl _ _).alloc (Nat.le_refl _) _))
    | 5, _ =>
      obtain ⟨g, e2, kg⟩ := h4 4 (by decide)
      have e1 : a.tmps.getD 455 undef = _ := (h4 3 (by decide))
      refine st_call rfl rfl (wanted_some (s := 454) rfl rfl (h4 2 (by decide))) (vs := #[.slice p50 2 c50, .slice (some ⟨g, 0, none⟩) 2 2]) (args2 e1 e2) (run_enter Tryd.func36 (by kernel_rfl) (by kernel_rfl) _) ?_
      refine (same_num _ _ _ _ [0, 1] 2 _ (LS50.out.below h5) (ints_of_blk kg rfl (by decide)) rfl (by decide)).mono ?_
      rintro e w1 ⟨rfl, y, rfl⟩
      exact ⟨_, rfl, hK _ _ rfl (below_ext _ _)⟩
    | 6, _ =>
      exact st_pick rfl rfl (wanted_none rfl) (h4 2 (by decide)) (by rw [if_pos rfl]; exact (h4 5 (by decide))) (hK _ _ rfl (Below.refl _ _))
    | 7, _ =>
      exact st_move rfl rfl (wanted_none rfl) (h4 6 (by decide)) (hK _ _ rfl (Below.refl _ _))
    | 8, _ =>
      exact st_move rfl rfl (wanted_some (s := 459) rfl rfl (h4 7 (by decide))) D22 (hK _ _ rfl (Below.refl _ _))
    | 9, _ =>
      exact st_eq rfl rfl (wanted_some (s := 459) rfl rfl (h4 7 (by decide))) (h4 8 (by decide)) (hK _ _ (by rfl) (Below.refl _ _))
    | 10, _ =>
      exact st_pick rfl rfl (wanted_none rfl) (h4 7 (by decide)) (by rw [if_pos rfl]; exact (h4 9 (by decide))) (hK _ _ rfl (Below.refl _ _))
    | 11, _ =>
      exact st_move rfl rfl (wanted_none rfl) (h4 10 (by decide)) (hK _ _ rfl (Below.refl _ _))
    | 12, _ =>
      exact st_move rfl rfl (wanted_some (s := 463) rfl rfl (h4 11 (by decide))) D44 (hK _ _ rfl (Below.refl _ _))
    | 13, _ =>
      exact st_valw rfl (wanted_some (s := 463) rfl rfl (h4 11 (by decide))) (run_bs1 _ rfl) (hK _ _ ⟨_, rfl, Blk.new rfl⟩ ((Below.refl _ _).alloc (Nat.le_refl _) _))
    | 14, _ =>
      obtain ⟨g, e2, kg⟩ := h4 13 (by decide)
      have e1 : a.tmps.getD 464 undef = _ := (h4 12 (by decide))
      refine st_call rfl rfl (wanted_some (s := 463) rfl rfl (h4 11 (by decide))) (vs := #[.slice p51 1 c51, .slice (some ⟨g, 0, none⟩) 1 1]) (args2 e1 e2) (run_enter Tryd.func36 (by kernel_rfl) (by kernel_rfl) _) ?_
      refine (same_num _ _ _ _ [2] 1 _ (LS51.out.below h5) (ints_of_blk kg rfl (by decide)) rfl (by decide)).mono ?_
      rintro e w1 ⟨rfl, y, rfl⟩
      exact ⟨_, rfl, hK _ _ rfl (below_ext _ _)⟩
    | 15, _ =>
      exact st_pick rfl rfl (wanted_none rfl) (h4 11 (by decide)) (by rw [if_pos rfl]; exact (h4 14 (by decide))) (hK _ _ rfl (Below.refl _ _))
    | 16, _ =>
      exact st_move rfl rfl (wanted_none rfl) (h4 15 (by decide)) (hK _ _ rfl (Below.refl _ _))
    | 17, _ =>
      exact st_move rfl rfl (wanted_some (s := 468) rfl rfl (h4 16 (by decide))) D24 (hK _ _ rfl (Below.refl _ _))
    | 18, _ =>
      exact st_eq rfl rfl (wanted_some (s := 468) rfl rfl (h4 16 (by decide))) (h4 17 (by decide)) (hK _ _ (by rfl) (Below.refl _ _))
    | 19, _ =>
      exact st_pick rfl rfl (wanted_none rfl) (h4 16 (by decide)) (by rw [if_pos rfl]; exact (h4 18 (by decide))) (hK _ _ rfl (Below.refl _ _))
    | 20, _ =>
      exact st_move rfl rfl (wanted_none rfl) (h4 19 (by decide)) (hK _ _ rfl (Below.refl _ _))
    | 21, _ =>
      exact st_move rfl rfl (wanted_some (s := 472) rfl rfl (h4 20 (by decide))) D45 (hK _ _ rfl (Below.refl _ _))
    | 22, _ =>
      exact st_valw rfl (wanted_some (s := 472) rfl rfl (h4 20 (by decide))) (run_bs1 _ rfl) (hK _ _ ⟨_, rfl, Blk.new rfl⟩ ((Below.refl _ _).alloc (Nat.le_refl _) _))
    | 23, _ =>
      obtain ⟨g, e2, kg⟩ := h4 22 (by decide)
      have e1 : a.tmps.getD 473 undef = _ := (h4 21 (by decide))
      refine st_call rfl rfl (wanted_some (s := 472) rfl rfl (h4 20 (by decide))) (vs := #[.slice p52 1 c52, .slice (some ⟨g, 0, none⟩) 1 1]) (args2 e1 e2) (run_enter Tryd.func36 (by kernel_rfl) (by kernel_rfl) _) ?_
      refine (same_num _ _ _ _ [0] 1 _ (LS52.out.below h5) (ints_of_blk kg rfl (by decide)) rfl (by decide)).mono ?_
      rintro e w1 ⟨rfl, y, rfl⟩
      exact ⟨_, rfl, hK _ _ rfl (below_ext _ _)⟩
    | 24, _ =>
      exact st_pick rfl rfl (wanted_none rfl) (h4 20 (by decide)) (by rw [if_pos rfl]; exact (h4 23 (by decide))) (hK _ _ rfl (Below.refl _ _))
    | 25, _ =>
      exact st_move rfl rfl (wanted_none rfl) (h4 24 (by decide)) (hK _ _ rfl (Below.refl _ _))
    | 26, _ =>
      exact st_move rfl rfl (wanted_some (s := 477) rfl rfl (h4 25 (by decide))) D26 (hK _ _ rfl (Below.refl _ _))
    | 27, _ =>
      exact st_eq rfl rfl (wanted_some (s := 477) rfl rfl (h4 25 (by decide))) (h4 26 (by decide)) (hK _ _ (by rfl) (Below.refl _ _))
    | 28, _ =>
      exact st_pick rfl rfl (wanted_none rfl) (h4 25 (by decide)) (by rw [if_pos rfl]; exact (h4 27 (by decide))) (hK _ _ rfl (Below.refl _ _))
    | 29, _ =>
      exact st_move rfl rfl (wanted_none rfl) (h4 28 (by decide)) (hK _ _ rfl (Below.refl _ _))
    | 30, _ =>
      exact st_move rfl rfl (wanted_some (s := 481) rfl rfl (h4 29 (by decide))) D46 (hK _ _ rfl (Below.refl _ _))
    | 31, _ =>
      exact st_val rfl (wanted_some (s := 481) rfl rfl (h4 29 (by decide))) (run_len_ints _ rfl (h4 30 (by decide))) (hK _ _ rfl (Below.refl _ _))
    | 32, _ =>
      exact st_eq rfl rfl (wanted_some (s := 481) rfl rfl (h4 29 (by decide))) (h4 31 (by decide)) (hK _ _ (by rfl) (Below.refl _ _))
    | 33, _ =>
      exact st_pick rfl rfl (wanted_none rfl) (h4 29 (by decide)) (by rw [if_pos rfl]; exact (h4 32 (by decide))) (hK _ _ rfl (Below.refl _ _))
    | 34, _ =>
      exact st_move rfl rfl (wanted_none rfl) (h4 33 (by decide)) (hK _ _ rfl (Below.refl _ _))
    | 35, _ =>
      exact st_move rfl rfl (wanted_some (s := 486) rfl rfl (h4 34 (by decide))) D28 (hK _ _ rfl (Below.refl _ _))
    | 36, _ =>
      exact st_eq rfl rfl (wanted_some (s := 486) rfl rfl (h4 34 (by decide))) (h4 35 (by decide)) (hK _ _ (by rfl) (Below.refl _ _))
    | 37, _ =>
      exact st_pick rfl rfl (wanted_none rfl) (h4 34 (by decide)) (by rw [if_pos rfl]; exact (h4 36 (by decide))) (hK _ _ rfl (Below.refl _ _))
    | 38, _ =>
      exact st_move rfl rfl (wanted_none rfl) (h4 37 (by decide)) (hK _ _ rfl (Below.refl _ _))
    | 39, _ =>
      exact st_move rfl rfl (wanted_some (s := 490) rfl rfl (h4 38 (by decide))) D47 (hK _ _ rfl (Below.refl _ _))
    | 40, _ =>
      refine st_call rfl rfl (wanted_some (s := 490) rfl rfl (h4 38 (by decide))) (consts2 _ _) (run_enter Tryd.func26 (by kernel_rfl) (by kernel_rfl) _) ?_
      refine (To_any _ _ _).mono ?_
      rintro e w1 ⟨rfl, y, rfl⟩
      exact ⟨_, rfl, hK _ _ rfl (below_ext _ _)⟩
    | 41, _ =>
      exact st_valw rfl (wanted_some (s := 490) rfl rfl (h4 38 (by decide))) (run_bs_span _ rfl (h4 40 (by decide))) (hK _ _ ⟨_, rfl, Blk.new rfl⟩ ((Below.refl _ _).alloc (Nat.le_refl _) _))
    | 42, _ =>
      obtain ⟨g, e2, kg⟩ := h4 41 (by decide)
      have e1 : a.tmps.getD 491 undef = _ := (h4 39 (by decide))
      refine st_call rfl rfl (wanted_some (s := 490) rfl rfl (h4 38 (by decide))) (vs := #[.slice p54 1 c54, .slice (some ⟨g, 0, none⟩) 1 1]) (args2 e1 e2) (run_enter Tryd.func45 (by kernel_rfl) (by kernel_rfl) _) ?_
      refine (sameSpans_num _ _ _ _ [(545, 1439)] 1 _ (LS54.out.below h5) (spans_of_blk kg rfl (by decide)) rfl (by decide)).mono ?_
      rintro e w1 ⟨rfl, y, rfl⟩
      exact ⟨_, rfl, hK _ _ rfl (below_ext _ _)⟩
    | 43, _ =>
      exact st_pick rfl rfl (wanted_none rfl) (h4 38 (by decide)) (by rw [if_pos rfl]; exact (h4 42 (by decide))) (hK _ _ rfl (Below.refl _ _))
    | 44, _ =>
      exact st_move rfl rfl (wanted_none rfl) (h4 43 (by decide)) (hK _ _ rfl (Below.refl _ _))
    | 45, _ =>
      exact st_move rfl rfl (wanted_some (s := 496) rfl rfl (h4 44 (by decide))) D30 (hK _ _ rfl (Below.refl _ _))
    | 46, _ =>
      exact st_eq rfl rfl (wanted_some (s := 496) rfl rfl (h4 44 (by decide))) (h4 45 (by decide)) (hK _ _ (by rfl) (Below.refl _ _))
    | 47, _ =>
      exact st_pick rfl rfl (wanted_none rfl) (h4 44 (by decide)) (by rw [if_pos rfl]; exact (h4 46 (by decide))) (hK _ _ rfl (Below.refl _ _))
    | 48, _ =>
      exact st_move rfl rfl (wanted_none rfl) (h4 47 (by decide)) (hK _ _ rfl (Below.refl _ _))
    | 49, _ =>
      exact st_move rfl rfl (wanted_some (s := 500) rfl rfl (h4 48 (by decide))) D48 (hK _ _ rfl (Below.refl _ _))
    | 50, _ =>
      exact st_val rfl (wanted_some (s := 500) rfl rfl (h4 48 (by decide))) (run_len_ints _ rfl (h4 49 (by decide))) (hK _ _ rfl (Below.refl _ _))
    | 51, _ =>
      exact st_eq rfl rfl (wanted_some (s := 500) rfl rfl (h4 48 (by decide))) (h4 50 (by decide)) (hK _ _ (by rfl) (Below.refl _ _))
    | 52, _ =>
      exact st_pick rfl rfl (wanted_none rfl) (h4 48 (by decide)) (by rw [if_pos rfl]; exact (h4 51 (by decide))) (hK _ _ rfl (Below.refl _ _))
    | 53, _ =>
      exact st_move rfl rfl (wanted_none rfl) (h4 52 (by decide)) (hK _ _ rfl (Below.refl _ _))
    | 54, _ =>
      exact st_move rfl rfl (wanted_some (s := 505) rfl rfl (h4 53 (by decide))) D32 (hK _ _ rfl (Below.refl _ _))
    | 55, _ =>
      exact st_eq rfl rfl (wanted_some (s := 505) rfl rfl (h4 53 (by decide))) (h4 54 (by decide)) (hK _ _ (by rfl) (Below.refl _ _))
    | 56, _ =>
      exact st_pick rfl rfl (wanted_none rfl) (h4 53 (by decide)) (by rw [if_pos rfl]; exact (h4 55 (by decide))) (hK _ _ rfl (Below.refl _ _))
    | 57, _ =>
      exact st_move rfl rfl (wanted_none rfl) (h4 56 (by decide)) (hK _ _ rfl (Below.refl _ _))
    | 58, _ =>
      exact st_move rfl rfl (wanted_some (s := 509) rfl rfl (h4 57 (by decide))) D49 (hK _ _ rfl (Below.refl _ _))
    | 59, _ =>
      exact st_eq rfl rfl (wanted_some (s := 509) rfl rfl (h4 57 (by decide))) (h4 58 (by decide)) (hK _ _ (by rfl) (Below.refl _ _))
    | 60, _ =>
      exact st_pick rfl rfl (wanted_none rfl) (h4 57 (by decide)) (by rw [if_pos rfl]; exact (h4 59 (by decide))) (hK _ _ rfl (Below.refl _ _))
    | 61, _ =>
      exact st_move rfl rfl (wanted_none rfl) (h4 60 (by decide)) (hK _ _ rfl (Below.refl _ _))
    | 62, _ =>
      exact st_move rfl rfl (wanted_some (s := 513) rfl rfl (h4 61 (by decide))) D34 (hK _ _ rfl (Below.refl _ _))
    | 63, _ =>
      exact st_eq rfl rfl (wanted_some (s := 513) rfl rfl (h4 61 (by decide))) (h4 62 (by decide)) (hK _ _ (by rfl) (Below.refl _ _))
    | 64, _ =>
      exact st_pick rfl rfl (wanted_none rfl) (h4 61 (by decide)) (by rw [if_pos rfl]; exact (h4 63 (by decide))) (hK _ _ rfl (Below.refl _ _))
    | 65, _ =>
      exact st_move rfl rfl (wanted_none rfl) (h4 64 (by decide)) (hK _ _ rfl (Below.refl _ _))
    | 66, _ =>
      exact st_move rfl rfl (wanted_some (s := 517) rfl rfl (h4 65 (by decide))) D50 (hK _ _ rfl (Below.refl _ _))
    | 67, _ =>
      exact st_eq rfl rfl (wanted_some (s := 517) rfl rfl (h4 65 (by decide))) (h4 66 (by decide)) (hK _ _ (by rfl) (Below.refl _ _))
    | 68, _ =>
      exact st_pick rfl rfl (wanted_none rfl) (h4 65 (by decide)) (by rw [if_pos rfl]; exact (h4 67 (by decide))) (hK _ _ rfl (Below.refl _ _))
    | 69, _ =>
      exact st_move rfl rfl (wanted_none rfl) (h4 68 (by decide)) (hK _ _ rfl (Below.refl _ _))
    | 70, _ =>
      exact st_move rfl rfl (wanted_some (s := 521) rfl rfl (h4 69 (by decide))) D52 (hK _ _ rfl (Below.refl _ _))
    | 71, _ =>
      exact st_eq rfl rfl (wanted_some (s := 521) rfl rfl (h4 69 (by decide))) (h4 70 (by decide)) (hK _ _ (by rfl) (Below.refl _ _))
    | 72, _ =>
      exact st_pick rfl rfl (wanted_none rfl) (h4 69 (by decide)) (by rw [if_pos rfl]; exact (h4 71 (by decide))) (hK _ _ rfl (Below.refl _ _))
    | 73, _ =>
      exact st_move rfl rfl (wanted_none rfl) (h4 72 (by decide)) (hK _ _ rfl (Below.refl _ _))
    | 74, _ =>
      exact st_move rfl rfl (wanted_some (s := 525) rfl rfl (h4 73 (by decide))) D51 (hK _ _ rfl (Below.refl _ _))
    | 75, _ =>
      exact st_eq rfl rfl (wanted_some (s := 525) rfl rfl (h4 73 (by decide))) (h4 74 (by decide)) (hK _ _ (by rfl) (Below.refl _ _))
    | 76, _ =>
      exact st_pick rfl rfl (wanted_none rfl) (h4 73 (by decide)) (by rw [if_pos rfl]; exact (h4 75 (by decide))) (hK _ _ rfl (Below.refl _ _))
    | 77, _ =>
      exact st_move rfl rfl (wanted_none rfl) (h4 76 (by decide)) (hK _ _ rfl (Below.refl _ _))
    | 78, _ =>
      exact st_move rfl rfl (wanted_some (s := 529) rfl rfl (h4 77 (by decide))) D55 (hK _ _ rfl (Below.refl _ _))
    | 79, _ =>
      exact st_eq rfl rfl (wanted_some (s := 529) rfl rfl (h4 77 (by decide))) (h4 78 (by decide)) (hK _ _ (by rfl) (Below.refl _ _))
    | 80, _ =>
      exact st_pick rfl rfl (wanted_none rfl) (h4 77 (by decide)) (by rw [if_pos rfl]; exact (h4 79 (by decide))) (hK _ _ rfl (Below.refl _ _))
    | 81, _ =>
      exact st_move rfl rfl (wanted_none rfl) (h4 80 (by decide)) (hK _ _ rfl (Below.refl _ _))
    | 82, _ =>
      exact st_move rfl rfl (wanted_some (s := 533) rfl rfl (h4 81 (by decide))) D54 (hK _ _ rfl (Below.refl _ _))
    | 83, _ =>
      refine st_call rfl rfl (wanted_some (s := 533) rfl rfl (h4 81 (by decide))) (consts2 _ _) (run_enter Tryd.func26 (by kernel_rfl) (by kernel_rfl) _) ?_
      refine (To_any _ _ _).mono ?_
      rintro e w1 ⟨rfl, y, rfl⟩
      exact ⟨_, rfl, hK _ _ rfl (below_ext _ _)⟩
    | 84, _ =>
      exact st_valw rfl (wanted_some (s := 533) rfl rfl (h4 81 (by decide))) (run_bs_span _ rfl (h4 83 (by decide))) (hK _ _ ⟨_, rfl, Blk.new rfl⟩ ((Below.refl _ _).alloc (Nat.le_refl _) _))
    | 85, _ =>
      obtain ⟨g, e2, kg⟩ := h4 84 (by decide)
      have e1 : a.tmps.getD 534 undef = _ := (h4 82 (by decide))
      refine st_call rfl rfl (wanted_some (s := 533) rfl rfl (h4 81 (by decide))) (vs := #[.slice p60 1 c60, .slice (some ⟨g, 0, none⟩) 1 1]) (args2 e1 e2) (run_enter Tryd.func45 (by kernel_rfl) (by kernel_rfl) _) ?_
      refine (sameSpans_num _ _ _ _ [(0, 1439)] 1 _ (LS60.out.below h5) (spans_of_blk kg rfl (by decide)) rfl (by decide)).mono ?_
      rintro e w1 ⟨rfl, y, rfl⟩
      exact ⟨_, rfl, hK _ _ rfl (below_ext _ _)⟩
    | 86, _ =>
      exact st_pick rfl rfl (wanted_none rfl) (h4 81 (by decide)) (by rw [if_pos rfl]; exact (h4 85 (by decide))) (hK _ _ rfl (Below.refl _ _))
    | 87, _ =>
      exact st_move rfl rfl (wanted_none rfl) (h4 86 (by decide)) (hK _ _ rfl (Below.refl _ _))
    | 88, _ =>
      exact st_move rfl rfl (wanted_some (s := 539) rfl rfl (h4 87 (by decide))) D57 (hK _ _ rfl (Below.refl _ _))
    | 89, _ =>
      exact st_eq rfl rfl (wanted_some (s := 539) rfl rfl (h4 87 (by decide))) (h4 88 (by decide)) (hK _ _ (by rfl) (Below.refl _ _))
    | 90, _ =>
      exact st_pick rfl rfl (wanted_none rfl) (h4 87 (by decide)) (by rw [if_pos rfl]; exact (h4 89 (by decide))) (hK _ _ rfl (Below.refl _ _))
    | 91, _ =>
      exact st_move rfl rfl (wanted_none rfl) (h4 90 (by decide)) (hK _ _ rfl (Below.refl _ _))
    | 92, _ =>
      exact st_pick rfl rfl (wanted_none rfl) (h4 91 (by decide)) (by rw [if_pos rfl]; exact rfl) (hK _ _ rfl (Below.refl _ _))
    | 93, _ =>
      exact st_move rfl rfl (wanted_none rfl) (h4 92 (by decide)) (hK _ _ rfl (Below.refl _ _))
    | 94, _ =>
      refine st_call rfl rfl (wanted_some (s := 545) rfl rfl (h4 93 (by decide))) (vs := #[]) (by simp) (run_enter Tryd.func13 (by kernel_rfl) (by kernel_rfl) _) ?_
      refine (shot_any _ (HNL.out.below h5)).mono ?_
      rintro e w1 ⟨rfl, y, rfl⟩
      exact ⟨_, rfl, hK _ _ rfl (below_ext _ _)⟩
    | 95, _ =>
      exact st_pick rfl rfl (wanted_none rfl) (h4 93 (by decide)) (by rw [if_pos rfl]; exact (h4 94 (by decide))) (hK _ _ rfl (Below.refl _ _))
    | 96, _ =>
      exact st_assign rfl rfl (wanted_none rfl) (h4 95 (by decide)) (hK _ _ rfl (Below.refl _ _))
    | k + 97, hk => omega
  · intro a W h1 h2 h3 h4 h5
    have R0 : a.tmps.getD 0 undef = .bool true := h4 96 (by decide)
    have HWL := Lib.hid (HW22.out.trans (h5.mono HW22.out.size))
    clear h3 h4 h5
    show wpList _ _ _ ([] : List Oper) a W
    unfold wpList
    simp only [Exit.then]
    try apply_assumption
    refine wp_ret ?_
    refine bodyPost_ret (v := .bool true) ?_ ?_ ?_
    · simp [results, Tryd.results11, go_sem]
      simpa [Array.getD_eq_getD_getElem?] using R0
    · first | exact h2 | rfl
    · exact ⟨rfl, ext_of HWL.out⟩
end Go.Proofs.YtdmicngnbcdkdaaDoor

