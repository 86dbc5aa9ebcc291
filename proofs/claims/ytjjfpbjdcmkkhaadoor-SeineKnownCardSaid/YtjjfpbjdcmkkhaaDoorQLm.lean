/- SeineKnown's second half: what follows the rows of books that are none. Written by gen_sknown.py. -/
import Derived.Test.YtjjfpbjdcmkkhaaDoorQLk
import Derived.Deep.CutBlock
import Derived.Outline
set_option linter.unusedSimpArgs false
set_option linter.unusedVariables false
namespace Go.Proofs.YtjjfpbjdcmkkhaaDoor
open Go Go.RowKit Go.Shelf
def sub21 : Code → Option Code
  | .seq (.region 21 ops d) b => some (.seq (.region 21 ops d) b)
  | .seq a b => match sub21 a with
    | some c => some c
    | none => sub21 b
  | .block _ c => sub21 c
  | .scope c => sub21 c
  | _ => none
noncomputable def known21 : Code := ((Tryd.f13.body.bind sub21).getD .skip)
set_option maxRecDepth 100000 in
theorem range480 (f : Nat → Value) : (List.range 480).map f = [f 0, f 1, f 2, f 3, f 4, f 5, f 6, f 7, f 8, f 9, f 10, f 11, f 12, f 13, f 14, f 15, f 16, f 17, f 18, f 19, f 20, f 21, f 22, f 23, f 24, f 25, f 26, f 27, f 28, f 29, f 30, f 31, f 32, f 33, f 34, f 35, f 36, f 37, f 38, f 39, f 40, f 41, f 42, f 43, f 44, f 45, f 46, f 47, f 48, f 49, f 50, f 51, f 52, f 53, f 54, f 55, f 56, f 57, f 58, f 59, f 60, f 61, f 62, f 63, f 64, f 65, f 66, f 67, f 68, f 69, f 70, f 71, f 72, f 73, f 74, f 75, f 76, f 77, f 78, f 79, f 80, f 81, f 82, f 83, f 84, f 85, f 86, f 87, f 88, f 89, f 90, f 91, f 92, f 93, f 94, f 95, f 96, f 97, f 98, f 99, f 100, f 101, f 102, f 103, f 104, f 105, f 106, f 107, f 108, f 109, f 110, f 111, f 112, f 113, f 114, f 115, f 116, f 117, f 118, f 119, f 120, f 121, f 122, f 123, f 124, f 125, f 126, f 127, f 128, f 129, f 130, f 131, f 132, f 133, f 134, f 135, f 136, f 137, f 138, f 139, f 140, f 141, f 142, f 143, f 144, f 145, f 146, f 147, f 148, f 149, f 150, f 151, f 152, f 153, f 154, f 155, f 156, f 157, f 158, f 159, f 160, f 161, f 162, f 163, f 164, f 165, f 166, f 167, f 168, f 169, f 170, f 171, f 172, f 173, f 174, f 175, f 176, f 177, f 178, f 179, f 180, f 181, f 182, f 183, f 184, f 185, f 186, f 187, f 188, f 189, f 190, f 191, f 192, f 193, f 194, f 195, f 196, f 197, f 198, f 199, f 200, f 201, f 202, f 203, f 204, f 205, f 206, f 207, f 208, f 209, f 210, f 211, f 212, f 213, f 214, f 215, f 216, f 217, f 218, f 219, f 220, f 221, f 222, f 223, f 224, f 225, f 226, f 227, f 228, f 229, f 230, f 231, f 232, f 233, f 234, f 235, f 236, f 237, f 238, f 239, f 240, f 241, f 242, f 243, f 244, f 245, f 246, f 247, f 248, f 249, f 250, f 251, f 252, f 253, f 254, f 255, f 256, f 257, f 258, f 259, f 260, f 261, f 262, f 263, f 264, f 265, f 266, f 267, f 268, f 269, f 270, f 271, f 272, f 273, f 274, f 275, f 276, f 277, f 278, f 279, f 280, f 281, f 282, f 283, f 284, f 285, f 286, f 287, f 288, f 289, f 290, f 291, f 292, f 293, f 294, f 295, f 296, f 297, f 298, f 299, f 300, f 301, f 302, f 303, f 304, f 305, f 306, f 307, f 308, f 309, f 310, f 311, f 312, f 313, f 314, f 315, f 316, f 317, f 318, f 319, f 320, f 321, f 322, f 323, f 324, f 325, f 326, f 327, f 328, f 329, f 330, f 331, f 332, f 333, f 334, f 335, f 336, f 337, f 338, f 339, f 340, f 341, f 342, f 343, f 344, f 345, f 346, f 347, f 348, f 349, f 350, f 351, f 352, f 353, f 354, f 355, f 356, f 357, f 358, f 359, f 360, f 361, f 362, f 363, f 364, f 365, f 366, f 367, f 368, f 369, f 370, f 371, f 372, f 373, f 374, f 375, f 376, f 377, f 378, f 379, f 380, f 381, f 382, f 383, f 384, f 385, f 386, f 387, f 388, f 389, f 390, f 391, f 392, f 393, f 394, f 395, f 396, f 397, f 398, f 399, f 400, f 401, f 402, f 403, f 404, f 405, f 406, f 407, f 408, f 409, f 410, f 411, f 412, f 413, f 414, f 415, f 416, f 417, f 418, f 419, f 420, f 421, f 422, f 423, f 424, f 425, f 426, f 427, f 428, f 429, f 430, f 431, f 432, f 433, f 434, f 435, f 436, f 437, f 438, f 439, f 440, f 441, f 442, f 443, f 444, f 445, f 446, f 447, f 448, f 449, f 450, f 451, f 452, f 453, f 454, f 455, f 456, f 457, f 458, f 459, f 460, f 461, f 462, f 463, f 464, f 465, f 466, f 467, f 468, f 469, f 470, f 471, f 472, f 473, f 474, f 475, f 476, f 477, f 478, f 479] := by rfl
set_option maxRecDepth 100000 in
theorem frame480 (a : Act) (h1 : a.tmps.size = 480) (h2 : a.defers = []) : ∃ f : Nat → Value, a = ⟨#[f 0, f 1, f 2, f 3, f 4, f 5, f 6, f 7, f 8, f 9, f 10, f 11, f 12, f 13, f 14, f 15, f 16, f 17, f 18, f 19, f 20, f 21, f 22, f 23, f 24, f 25, f 26, f 27, f 28, f 29, f 30, f 31, f 32, f 33, f 34, f 35, f 36, f 37, f 38, f 39, f 40, f 41, f 42, f 43, f 44, f 45, f 46, f 47, f 48, f 49, f 50, f 51, f 52, f 53, f 54, f 55, f 56, f 57, f 58, f 59, f 60, f 61, f 62, f 63, f 64, f 65, f 66, f 67, f 68, f 69, f 70, f 71, f 72, f 73, f 74, f 75, f 76, f 77, f 78, f 79, f 80, f 81, f 82, f 83, f 84, f 85, f 86, f 87, f 88, f 89, f 90, f 91, f 92, f 93, f 94, f 95, f 96, f 97, f 98, f 99, f 100, f 101, f 102, f 103, f 104, f 105, f 106, f 107, f 108, f 109, f 110, f 111, f 112, f 113, f 114, f 115, f 116, f 117, f 118, f 119, f 120, f 121, f 122, f 123, f 124, f 125, f 126, f 127, f 128, f 129, f 130, f 131, f 132, f 133, f 134, f 135, f 136, f 137, f 138, f 139, f 140, f 141, f 142, f 143, f 144, f 145, f 146, f 147, f 148, f 149, f 150, f 151, f 152, f 153, f 154, f 155, f 156, f 157, f 158, f 159, f 160, f 161, f 162, f 163, f 164, f 165, f 166, f 167, f 168, f 169, f 170, f 171, f 172, f 173, f 174, f 175, f 176, f 177, f 178, f 179, f 180, f 181, f 182, f 183, f 184, f 185, f 186, f 187, f 188, f 189, f 190, f 191, f 192, f 193, f 194, f 195, f 196, f 197, f 198, f 199, f 200, f 201, f 202, f 203, f 204, f 205, f 206, f 207, f 208, f 209, f 210, f 211, f 212, f 213, f 214, f 215, f 216, f 217, f 218, f 219, f 220, f 221, f 222, f 223, f 224, f 225, f 226, f 227, f 228, f 229, f 230, f 231, f 232, f 233, f 234, f 235, f 236, f 237, f 238, f 239, f 240, f 241, f 242, f 243, f 244, f 245, f 246, f 247, f 248, f 249, f 250, f 251, f 252, f 253, f 254, f 255, f 256, f 257, f 258, f 259, f 260, f 261, f 262, f 263, f 264, f 265, f 266, f 267, f 268, f 269, f 270, f 271, f 272, f 273, f 274, f 275, f 276, f 277, f 278, f 279, f 280, f 281, f 282, f 283, f 284, f 285, f 286, f 287, f 288, f 289, f 290, f 291, f 292, f 293, f 294, f 295, f 296, f 297, f 298, f 299, f 300, f 301, f 302, f 303, f 304, f 305, f 306, f 307, f 308, f 309, f 310, f 311, f 312, f 313, f 314, f 315, f 316, f 317, f 318, f 319, f 320, f 321, f 322, f 323, f 324, f 325, f 326, f 327, f 328, f 329, f 330, f 331, f 332, f 333, f 334, f 335, f 336, f 337, f 338, f 339, f 340, f 341, f 342, f 343, f 344, f 345, f 346, f 347, f 348, f 349, f 350, f 351, f 352, f 353, f 354, f 355, f 356, f 357, f 358, f 359, f 360, f 361, f 362, f 363, f 364, f 365, f 366, f 367, f 368, f 369, f 370, f 371, f 372, f 373, f 374, f 375, f 376, f 377, f 378, f 379, f 380, f 381, f 382, f 383, f 384, f 385, f 386, f 387, f 388, f 389, f 390, f 391, f 392, f 393, f 394, f 395, f 396, f 397, f 398, f 399, f 400, f 401, f 402, f 403, f 404, f 405, f 406, f 407, f 408, f 409, f 410, f 411, f 412, f 413, f 414, f 415, f 416, f 417, f 418, f 419, f 420, f 421, f 422, f 423, f 424, f 425, f 426, f 427, f 428, f 429, f 430, f 431, f 432, f 433, f 434, f 435, f 436, f 437, f 438, f 439, f 440, f 441, f 442, f 443, f 444, f 445, f 446, f 447, f 448, f 449, f 450, f 451, f 452, f 453, f 454, f 455, f 456, f 457, f 458, f 459, f 460, f 461, f 462, f 463, f 464, f 465, f 466, f 467, f 468, f 469, f 470, f 471, f 472, f 473, f 474, f 475, f 476, f 477, f 478, f 479], []⟩ := by
  obtain ⟨⟨l⟩, D⟩ := a
  obtain rfl : D = [] := h2
  have h1 : l.length = 480 := h1
  refine ⟨fun i => l.getD i undef, ?_⟩
  have e : l = (List.range 480).map fun i => l.getD i undef := by
    apply List.ext_getElem
    · simp [h1]
    · intro i h3 h4
      simp [List.getD_eq_getElem?_getD, h3]
  rw [range480] at e
  exact congrArg (fun x => (⟨⟨x⟩, []⟩ : Act)) e
attribute [local go_sem] Oper.semAt_some frozen_alloc_lt
set_option maxRecDepth 100000 in
set_option maxHeartbeats 16000000 in
theorem sknown_second (w V0 : World) (a : Act) (h1 : a.tmps.size = 480) (h2 : a.defers = []) (hn : MM w) (hw : Below w.heap.size w V0) : Code.wp Tryd.prog known21 (bodyPost Tryd.prog Tryd.f13 fun e w' => e = .returned (.bool true) ∧ ∃ x, w' = ext w x) a V0 := by
  have HN := Lib.hid hn
  have HW0 := Lib.hid hw
  obtain ⟨f, rfl⟩ := frame480 a h1 h2
  clear hn hw h1 h2
  conv => arg 2; whnf
  go_upto_region 22 with (first
    | (go_at_call 50; refine (torn_any _).mono ?_; rintro e w1 ⟨gb, cb, rfl, hb9, y9, rfl⟩; have HBK := Lib.hid hb9; clear hb9)
    | (go_at_call 18; refine (Can_t1 (HBK.out.below (by (repeat (first | (with_reducible exact Below.refl _ _) | (with_reducible refine bel_comp ?_) | (with_reducible refine bel_alloc ?_ _) | (with_reducible refine bel_ext ?_ _))))) (HN.out.below (HW0.out.trans (Below.mono (by (repeat (first | (with_reducible exact Below.refl _ _) | (with_reducible assumption) | ((with_reducible refine below_ext_trans ?_ ?_ _); rotate_left; focus (((try dsimp only); repeat (first | omega | simp only [World.size_alloc, World.size_setCell, World.size_drew] | (with_reducible refine le_ext_of ?_) | (with_reducible refine le_ext_add ?_))); done)) | ((with_reducible refine Below.alloc ?_ ?_ _); rotate_left; focus (((try dsimp only); repeat (first | omega | simp only [World.size_alloc, World.size_setCell, World.size_drew] | (with_reducible refine le_ext_of ?_) | (with_reducible refine le_ext_add ?_))); done)) | ((with_reducible refine Below.setCell ?_ ?_ _); rotate_left; focus (((try dsimp only); repeat (first | omega | simp only [World.size_alloc, World.size_setCell, World.size_drew] | (with_reducible refine le_ext_of ?_) | (with_reducible refine le_ext_add ?_))); done)) | (with_reducible refine Below.drew ?_)))) HW0.out.size)))).mono ?_; rintro e w1 ⟨rfl, y8, rfl⟩))
  generalize hE : ext V0 (y9.comp y8) = V1 at *
  have hB : Below V0.heap.size V0 V1 := by rw [← hE]; exact below_ext _ _
  have HW1 := Lib.hid (HW0.out.trans (hB.mono HW0.out.size))
  clear hE hB HW0 HBK
  go_upto_region 23 with (first
    | (go_at_call 50; refine (torn_any _).mono ?_; rintro e w1 ⟨gb, cb, rfl, hb9, y9, rfl⟩; have HBK := Lib.hid hb9; clear hb9)
    | (go_at_call 18; refine (Can_t2 (HBK.out.below (by (repeat (first | (with_reducible exact Below.refl _ _) | (with_reducible refine bel_comp ?_) | (with_reducible refine bel_alloc ?_ _) | (with_reducible refine bel_ext ?_ _))))) (HN.out.below (HW1.out.trans (Below.mono (by (repeat (first | (with_reducible exact Below.refl _ _) | (with_reducible assumption) | ((with_reducible refine below_ext_trans ?_ ?_ _); rotate_left; focus (((try dsimp only); repeat (first | omega | simp only [World.size_alloc, World.size_setCell, World.size_drew] | (with_reducible refine le_ext_of ?_) | (with_reducible refine le_ext_add ?_))); done)) | ((with_reducible refine Below.alloc ?_ ?_ _); rotate_left; focus (((try dsimp only); repeat (first | omega | simp only [World.size_alloc, World.size_setCell, World.size_drew] | (with_reducible refine le_ext_of ?_) | (with_reducible refine le_ext_add ?_))); done)) | ((with_reducible refine Below.setCell ?_ ?_ _); rotate_left; focus (((try dsimp only); repeat (first | omega | simp only [World.size_alloc, World.size_setCell, World.size_drew] | (with_reducible refine le_ext_of ?_) | (with_reducible refine le_ext_add ?_))); done)) | (with_reducible refine Below.drew ?_)))) HW1.out.size)))).mono ?_; rintro e w1 ⟨rfl, y8, rfl⟩))
  generalize hE : ext V1 (y9.comp y8) = V2 at *
  have hB : Below V1.heap.size V1 V2 := by rw [← hE]; exact below_ext _ _
  have HW2 := Lib.hid (HW1.out.trans (hB.mono HW1.out.size))
  clear hE hB HW1 HBK
  go_upto_region 24 with (first
    | (go_at_call 50; refine (torn_any _).mono ?_; rintro e w1 ⟨gb, cb, rfl, hb9, y9, rfl⟩; have HBK := Lib.hid hb9; clear hb9)
    | (go_at_call 20; refine (Held_t1 (HBK.out.below (by (repeat (first | (with_reducible exact Below.refl _ _) | (with_reducible refine bel_comp ?_) | (with_reducible refine bel_alloc ?_ _) | (with_reducible refine bel_ext ?_ _))))) (HN.out.below (HW2.out.trans (Below.mono (by (repeat (first | (with_reducible exact Below.refl _ _) | (with_reducible assumption) | ((with_reducible refine below_ext_trans ?_ ?_ _); rotate_left; focus (((try dsimp only); repeat (first | omega | simp only [World.size_alloc, World.size_setCell, World.size_drew] | (with_reducible refine le_ext_of ?_) | (with_reducible refine le_ext_add ?_))); done)) | ((with_reducible refine Below.alloc ?_ ?_ _); rotate_left; focus (((try dsimp only); repeat (first | omega | simp only [World.size_alloc, World.size_setCell, World.size_drew] | (with_reducible refine le_ext_of ?_) | (with_reducible refine le_ext_add ?_))); done)) | ((with_reducible refine Below.setCell ?_ ?_ _); rotate_left; focus (((try dsimp only); repeat (first | omega | simp only [World.size_alloc, World.size_setCell, World.size_drew] | (with_reducible refine le_ext_of ?_) | (with_reducible refine le_ext_add ?_))); done)) | (with_reducible refine Below.drew ?_)))) HW2.out.size)))).mono ?_; rintro e w1 ⟨rfl, y8, rfl⟩))
  obtain ⟨gx1, hg⟩ : ∃ g, g = (ext V2 (y9.comp y8)).heap.size := ⟨_, rfl⟩
  rw [← hg]
  generalize hE : (ext V2 (y9.comp y8)).alloc _ = V3 at *
  have hB : Below V2.heap.size V2 V3 := by rw [← hE]; exact (below_ext _ _).alloc (below_ext _ _).size _
  have Kx1 := Lib.hid (show Blk V3 gx1 23 #[.int .i64 0, .int .i64 0] by rw [← hE]; exact Blk.new hg)
  have HW3 := Lib.hid (HW2.out.trans (hB.mono HW2.out.size))
  clear hE hB HW2 HBK hg
  clear Kx1
  go_upto_region 25 with (first
    | (go_at_call 50; refine (torn_any _).mono ?_; rintro e w1 ⟨gb, cb, rfl, hb9, y9, rfl⟩; have HBK := Lib.hid hb9; clear hb9)
    | (go_at_call 22; refine (Rate_t1 (HBK.out.below (by (repeat (first | (with_reducible exact Below.refl _ _) | (with_reducible refine bel_comp ?_) | (with_reducible refine bel_alloc ?_ _) | (with_reducible refine bel_ext ?_ _))))) (HN.out.below (HW3.out.trans (Below.mono (by (repeat (first | (with_reducible exact Below.refl _ _) | (with_reducible assumption) | ((with_reducible refine below_ext_trans ?_ ?_ _); rotate_left; focus (((try dsimp only); repeat (first | omega | simp only [World.size_alloc, World.size_setCell, World.size_drew] | (with_reducible refine le_ext_of ?_) | (with_reducible refine le_ext_add ?_))); done)) | ((with_reducible refine Below.alloc ?_ ?_ _); rotate_left; focus (((try dsimp only); repeat (first | omega | simp only [World.size_alloc, World.size_setCell, World.size_drew] | (with_reducible refine le_ext_of ?_) | (with_reducible refine le_ext_add ?_))); done)) | ((with_reducible refine Below.setCell ?_ ?_ _); rotate_left; focus (((try dsimp only); repeat (first | omega | simp only [World.size_alloc, World.size_setCell, World.size_drew] | (with_reducible refine le_ext_of ?_) | (with_reducible refine le_ext_add ?_))); done)) | (with_reducible refine Below.drew ?_)))) HW3.out.size)))).mono ?_; rintro e w1 ⟨rfl, y8, rfl⟩))
  obtain ⟨gx2, hg⟩ : ∃ g, g = (ext V3 (y9.comp y8)).heap.size := ⟨_, rfl⟩
  rw [← hg]
  generalize hE : (ext V3 (y9.comp y8)).alloc _ = V4 at *
  have hB : Below V3.heap.size V3 V4 := by rw [← hE]; exact (below_ext _ _).alloc (below_ext _ _).size _
  have Kx2 := Lib.hid (show Blk V4 gx2 23 #[.int .i64 0, .int .i64 0] by rw [← hE]; exact Blk.new hg)
  have HW4 := Lib.hid (HW3.out.trans (hB.mono HW3.out.size))
  clear hE hB HW3 HBK hg
  clear Kx2
  go_upto_region 26 with (first
    | (go_at_call 50; refine (torn_any _).mono ?_; rintro e w1 ⟨gb, cb, rfl, hb9, y9, rfl⟩; have HBK := Lib.hid hb9; clear hb9)
    | (go_at_call 39; refine (Just_any _ _).mono ?_; rintro e w1 ⟨rfl, y7, rfl⟩)
    | (go_at_call 40; refine (note_any _ _ _ _ _).mono ?_; rintro e w1 ⟨rfl, y6, rfl⟩)
    | (go_at_call 29; refine (Fits_t1 (HBK.out.below (by (repeat (first | (with_reducible exact Below.refl _ _) | (with_reducible refine bel_comp ?_) | (with_reducible refine bel_alloc ?_ _) | (with_reducible refine bel_ext ?_ _))))) (HN.out.below (HW4.out.trans (Below.mono (by (repeat (first | (with_reducible exact Below.refl _ _) | (with_reducible assumption) | ((with_reducible refine below_ext_trans ?_ ?_ _); rotate_left; focus (((try dsimp only); repeat (first | omega | simp only [World.size_alloc, World.size_setCell, World.size_drew] | (with_reducible refine le_ext_of ?_) | (with_reducible refine le_ext_add ?_))); done)) | ((with_reducible refine Below.alloc ?_ ?_ _); rotate_left; focus (((try dsimp only); repeat (first | omega | simp only [World.size_alloc, World.size_setCell, World.size_drew] | (with_reducible refine le_ext_of ?_) | (with_reducible refine le_ext_add ?_))); done)) | ((with_reducible refine Below.setCell ?_ ?_ _); rotate_left; focus (((try dsimp only); repeat (first | omega | simp only [World.size_alloc, World.size_setCell, World.size_drew] | (with_reducible refine le_ext_of ?_) | (with_reducible refine le_ext_add ?_))); done)) | (with_reducible refine Below.drew ?_)))) HW4.out.size)))).mono ?_; rintro e w1 ⟨rfl, y8, rfl⟩))
  generalize hE : ext V4 (((y9.comp y7).comp y6).comp y8) = V5 at *
  have hB : Below V4.heap.size V4 V5 := by rw [← hE]; exact below_ext _ _
  have HW5 := Lib.hid (HW4.out.trans (hB.mono HW4.out.size))
  clear hE hB HW4 HBK
  go_upto_region 27 with (first
    | (go_at_call 50; refine (torn_any _).mono ?_; rintro e w1 ⟨gb, cb, rfl, hb9, y9, rfl⟩; have HBK := Lib.hid hb9; clear hb9)
    | (go_at_call 20; refine (Held_t2 (HBK.out.below (by (repeat (first | (with_reducible exact Below.refl _ _) | (with_reducible refine bel_comp ?_) | (with_reducible refine bel_alloc ?_ _) | (with_reducible refine bel_ext ?_ _))))) (HN.out.below (HW5.out.trans (Below.mono (by (repeat (first | (with_reducible exact Below.refl _ _) | (with_reducible assumption) | ((with_reducible refine below_ext_trans ?_ ?_ _); rotate_left; focus (((try dsimp only); repeat (first | omega | simp only [World.size_alloc, World.size_setCell, World.size_drew] | (with_reducible refine le_ext_of ?_) | (with_reducible refine le_ext_add ?_))); done)) | ((with_reducible refine Below.alloc ?_ ?_ _); rotate_left; focus (((try dsimp only); repeat (first | omega | simp only [World.size_alloc, World.size_setCell, World.size_drew] | (with_reducible refine le_ext_of ?_) | (with_reducible refine le_ext_add ?_))); done)) | ((with_reducible refine Below.setCell ?_ ?_ _); rotate_left; focus (((try dsimp only); repeat (first | omega | simp only [World.size_alloc, World.size_setCell, World.size_drew] | (with_reducible refine le_ext_of ?_) | (with_reducible refine le_ext_add ?_))); done)) | (with_reducible refine Below.drew ?_)))) HW5.out.size)))).mono ?_; rintro e w1 ⟨rfl, y8, rfl⟩))
  obtain ⟨gx3, hg⟩ : ∃ g, g = (ext V5 (y9.comp y8)).heap.size := ⟨_, rfl⟩
  rw [← hg]
  generalize hE : (ext V5 (y9.comp y8)).alloc _ = V6 at *
  have hB : Below V5.heap.size V5 V6 := by rw [← hE]; exact (below_ext _ _).alloc (below_ext _ _).size _
  have Kx3 := Lib.hid (show Blk V6 gx3 23 #[.int .i64 0, .int .i64 0] by rw [← hE]; exact Blk.new hg)
  have HW6 := Lib.hid (HW5.out.trans (hB.mono HW5.out.size))
  clear hE hB HW5 HBK hg
  clear Kx3
  go_upto_region 28 with (first
    | (go_at_call 50; refine (torn_any _).mono ?_; rintro e w1 ⟨gb, cb, rfl, hb9, y9, rfl⟩; have HBK := Lib.hid hb9; clear hb9)
    | (go_at_call 25; refine (Empty_t1 (HBK.out.below (by (repeat (first | (with_reducible exact Below.refl _ _) | (with_reducible refine bel_comp ?_) | (with_reducible refine bel_alloc ?_ _) | (with_reducible refine bel_ext ?_ _))))) (HN.out.below (HW6.out.trans (Below.mono (by (repeat (first | (with_reducible exact Below.refl _ _) | (with_reducible assumption) | ((with_reducible refine below_ext_trans ?_ ?_ _); rotate_left; focus (((try dsimp only); repeat (first | omega | simp only [World.size_alloc, World.size_setCell, World.size_drew] | (with_reducible refine le_ext_of ?_) | (with_reducible refine le_ext_add ?_))); done)) | ((with_reducible refine Below.alloc ?_ ?_ _); rotate_left; focus (((try dsimp only); repeat (first | omega | simp only [World.size_alloc, World.size_setCell, World.size_drew] | (with_reducible refine le_ext_of ?_) | (with_reducible refine le_ext_add ?_))); done)) | ((with_reducible refine Below.setCell ?_ ?_ _); rotate_left; focus (((try dsimp only); repeat (first | omega | simp only [World.size_alloc, World.size_setCell, World.size_drew] | (with_reducible refine le_ext_of ?_) | (with_reducible refine le_ext_add ?_))); done)) | (with_reducible refine Below.drew ?_)))) HW6.out.size)))).mono ?_; rintro e w1 ⟨rfl, y8, rfl⟩))
  generalize hE : ext V6 (y9.comp y8) = V7 at *
  have hB : Below V6.heap.size V6 V7 := by rw [← hE]; exact below_ext _ _
  have HW7 := Lib.hid (HW6.out.trans (hB.mono HW6.out.size))
  clear hE hB HW6 HBK
  go_upto_region 29 with (first
    | (go_at_call 50; refine (torn_any _).mono ?_; rintro e w1 ⟨gb, cb, rfl, hb9, y9, rfl⟩; have HBK := Lib.hid hb9; clear hb9)
    | (go_at_call 27; refine (Saved_t1 (HBK.out.below (by (repeat (first | (with_reducible exact Below.refl _ _) | (with_reducible refine bel_comp ?_) | (with_reducible refine bel_alloc ?_ _) | (with_reducible refine bel_ext ?_ _))))) (HN.out.below (HW7.out.trans (Below.mono (by (repeat (first | (with_reducible exact Below.refl _ _) | (with_reducible assumption) | ((with_reducible refine below_ext_trans ?_ ?_ _); rotate_left; focus (((try dsimp only); repeat (first | omega | simp only [World.size_alloc, World.size_setCell, World.size_drew] | (with_reducible refine le_ext_of ?_) | (with_reducible refine le_ext_add ?_))); done)) | ((with_reducible refine Below.alloc ?_ ?_ _); rotate_left; focus (((try dsimp only); repeat (first | omega | simp only [World.size_alloc, World.size_setCell, World.size_drew] | (with_reducible refine le_ext_of ?_) | (with_reducible refine le_ext_add ?_))); done)) | ((with_reducible refine Below.setCell ?_ ?_ _); rotate_left; focus (((try dsimp only); repeat (first | omega | simp only [World.size_alloc, World.size_setCell, World.size_drew] | (with_reducible refine le_ext_of ?_) | (with_reducible refine le_ext_add ?_))); done)) | (with_reducible refine Below.drew ?_)))) HW7.out.size)))).mono ?_; rintro e w1 ⟨rfl, y8, rfl⟩))
  obtain ⟨gx4, hg⟩ : ∃ g, g = (ext V7 (y9.comp y8)).heap.size := ⟨_, rfl⟩
  rw [← hg]
  generalize hE : (ext V7 (y9.comp y8)).alloc _ = V8 at *
  have hB : Below V7.heap.size V7 V8 := by rw [← hE]; exact (below_ext _ _).alloc (below_ext _ _).size _
  have Kx4 := Lib.hid (show Blk V8 gx4 23 #[.int .i64 0, .int .i64 0] by rw [← hE]; exact Blk.new hg)
  have HW8 := Lib.hid (HW7.out.trans (hB.mono HW7.out.size))
  clear hE hB HW7 HBK hg
  clear Kx4
  go_upto_region 30 with (first
    | (go_at_call 49; refine (book_none _).mono ?_; rintro e w1 ⟨gb, cb, rfl, hb9, y9, rfl⟩; have HBK := Lib.hid hb9; clear hb9)
    | (go_at_call 25; refine (Empty_b (HBK.out.below (by (repeat (first | (with_reducible exact Below.refl _ _) | (with_reducible refine bel_comp ?_) | (with_reducible refine bel_alloc ?_ _) | (with_reducible refine bel_ext ?_ _))))) (HN.out.below (HW8.out.trans (Below.mono (by (repeat (first | (with_reducible exact Below.refl _ _) | (with_reducible assumption) | ((with_reducible refine below_ext_trans ?_ ?_ _); rotate_left; focus (((try dsimp only); repeat (first | omega | simp only [World.size_alloc, World.size_setCell, World.size_drew] | (with_reducible refine le_ext_of ?_) | (with_reducible refine le_ext_add ?_))); done)) | ((with_reducible refine Below.alloc ?_ ?_ _); rotate_left; focus (((try dsimp only); repeat (first | omega | simp only [World.size_alloc, World.size_setCell, World.size_drew] | (with_reducible refine le_ext_of ?_) | (with_reducible refine le_ext_add ?_))); done)) | ((with_reducible refine Below.setCell ?_ ?_ _); rotate_left; focus (((try dsimp only); repeat (first | omega | simp only [World.size_alloc, World.size_setCell, World.size_drew] | (with_reducible refine le_ext_of ?_) | (with_reducible refine le_ext_add ?_))); done)) | (with_reducible refine Below.drew ?_)))) HW8.out.size)))).mono ?_; rintro e w1 ⟨rfl, y8, rfl⟩))
  generalize hE : ext V8 (y9.comp y8) = V9 at *
  have hB : Below V8.heap.size V8 V9 := by rw [← hE]; exact below_ext _ _
  have HW9 := Lib.hid (HW8.out.trans (hB.mono HW8.out.size))
  clear hE hB HW8 HBK
  go_upto_block 2 with fail
  generalize hT : V9.alloc _ = VT
  generalize hg37 : V9.heap.size = g37
  have hBT : Below V9.heap.size V9 VT := by rw [← hT]; (repeat (first | (with_reducible exact Below.refl _ _) | (with_reducible assumption) | ((with_reducible refine below_ext_trans ?_ ?_ _); rotate_left; focus (((try dsimp only); repeat (first | omega | simp only [World.size_alloc, World.size_setCell, World.size_drew] | (with_reducible refine le_ext_of ?_) | (with_reducible refine le_ext_add ?_))); done)) | ((with_reducible refine Below.alloc ?_ ?_ _); rotate_left; focus (((try dsimp only); repeat (first | omega | simp only [World.size_alloc, World.size_setCell, World.size_drew] | (with_reducible refine le_ext_of ?_) | (with_reducible refine le_ext_add ?_))); done)) | ((with_reducible refine Below.setCell ?_ ?_ _); rotate_left; focus (((try dsimp only); repeat (first | omega | simp only [World.size_alloc, World.size_setCell, World.size_drew] | (with_reducible refine le_ext_of ?_) | (with_reducible refine le_ext_add ?_))); done)) | (with_reducible refine Below.drew ?_)))
  have kt : Blk VT g37 67 heldCells := by rw [← hT]; exact Blk.new hg37.symm
  have HKT := Lib.hid kt
  have HWT := Lib.hid (HW9.out.trans (hBT.mono HW9.out.size))
  clear hT hg37 hBT kt HW9
  go_cut [38, 39, 40] from 305 to 338 (fun _ _ _ wx => Below VT.heap.size VT wx)
  case first =>
    go_wp2_with fail
    go_loopw [38] (fun i wr => ∃ k : Nat, k ≤ 5 ∧ i = .int .i64 k ∧ ∃ x, wr = ext VT x) (fun i _ => 5 - (intOf i).toNat)
    case atStart => exact ⟨0, by omega, rfl, ext_of (Below.refl _ _)⟩
    case round =>
      obtain ⟨k, hk, rfl, y1, rfl⟩ := hrel
      have hBV := below_ext VT y1
      generalize ext VT y1 = V at *
      have HT2 := Lib.hid (HKT.out.bel hBV)
      have HN2 := Lib.hid (HN.out.below (HWT.out.trans (hBV.mono HWT.out.size)))
      have HBV := Lib.hid hBV
      clear hBV
      by_cases hlt : k < 5
      · have k0 : (0 : Int) ≤ (k : Int) := by omega
        have k1 : (k : Int) < 5 := by omega
        go_upto_region 36 with fail
        refine wp_region_flow_backS 12 480 11 (fun _ => True) (tabS V.heap.size g37 k (heldRow k).1 (heldRow k).2.1 (heldRow k).2.2) (by kernel_rfl) (by kernel_rfl) rfl (by omega) (tabS_kept _ _ _ _ _ _) (fun _ _ h _ => h) ?_ ?_ ?_
        · intro i hin hik f a W1 h1 h2 h3 h4 h5 hfw KK hKK
          rcases (show i = 0 ∨ i = 1 ∨ i = 2 ∨ i = 3 ∨ i = 4 ∨ i = 5 ∨ i = 6 ∨ i = 7 ∨ i = 8 ∨ i = 9 ∨ i = 10 by omega) with hi0 | hi0 | hi0 | hi0 | hi0 | hi0 | hi0 | hi0 | hi0 | hi0 | hi0
          · subst hi0
            refine st_call rfl rfl (wanted_none rfl) (vs := #[.slice none 0 0]) (by simp [Act.eval]) (run_enter Tryd.func49 (by kernel_rfl) (by kernel_rfl) _) ?_
            refine (book_none _).mono ?_
            rintro e w1 ⟨gb, cb, rfl, hb9, y9, rfl⟩
            exact ⟨_, rfl, hKK _ _ ⟨gb, cb, rfl, fun _ => hb9.mono (Nat.zero_le _)⟩ (below_ext _ _)⟩
          · subst hi0
            exact st_move rfl rfl (wanted_none rfl) (h3 37 (by kernel_rfl)) (hKK _ _ rfl (Below.refl _ _))
          · subst hi0
            exact st_move rfl rfl (wanted_none rfl) (h3 38 (by kernel_rfl)) (hKK _ _ rfl (Below.refl _ _))
          · subst hi0
            exact st_val rfl (wanted_none rfl) (run_row3K _ rfl (h4 1 (by decide) (by kernel_rfl)) (h4 2 (by decide) (by kernel_rfl)) hlt (Nat.lt_of_lt_of_le HT2.out.lt h5.size)) (hKK _ _ rfl (Below.refl _ _))
          · subst hi0
            exact st_val rfl (wanted_none rfl) (run_col0K _ rfl (h4 3 (by decide) (by kernel_rfl)) (Nat.lt_of_lt_of_le HT2.out.lt h5.size)) (hKK _ _ rfl (Below.refl _ _))
          · subst hi0
            exact st_val rfl (wanted_none rfl) (run_lNumK _ rfl (h4 4 (by decide) (by kernel_rfl)) (((HT2.out.bel h5).cell _).trans (heldCells_at k hlt).1)) (hKK _ _ rfl (Below.refl _ _))
          · subst hi0
            obtain ⟨gb, cb, hu, hbf⟩ := h4 0 (by decide) (by kernel_rfl)
            have hff : f = false := by
              cases f with
              | false => rfl
              | true =>
                have h10 := hfw rfl
                rw [show Region.waitsFor .any _ 11 6 = true by kernel_rfl] at h10
                cases h10
            have hb9 := hbf hff
            refine st_call rfl rfl (wanted_none rfl) (args2 hu (h4 5 (by decide) (by kernel_rfl))) (run_enter Tryd.func20 (by kernel_rfl) (by kernel_rfl) _) ?_
            refine (Held_rows k hlt 0 gb cb _ hb9 (HN2.out.below h5)).mono ?_
            rintro e w1 ⟨rfl, y9, rfl⟩
            exact ⟨_, rfl, hKK _ _ rfl (below_ext _ _)⟩
          · subst hi0
            exact st_move rfl rfl (wanted_none rfl) (h4 6 (by decide) (by kernel_rfl)) (hKK _ _ rfl (Below.refl _ _))
          · subst hi0
            exact st_val rfl (wanted_none rfl) (run_extractS _ rfl (h4 7 (by decide) (by kernel_rfl)) rfl) (hKK _ _ rfl (Below.refl _ _))
          · subst hi0
            exact st_val rfl (wanted_none rfl) (run_extractS _ rfl (h4 7 (by decide) (by kernel_rfl)) rfl) (hKK _ _ rfl (Below.refl _ _))
          · subst hi0
            exact st_valw rfl (wanted_none rfl) (run_aSpanK _ rfl) (hKK _ _ ⟨_, rfl, h5.size, _, _, Blk.new rfl, fun hf => by have h9 := hfw hf; rw [show Region.waitsFor .any _ 11 10 = true by kernel_rfl] at h9; cases h9⟩ ((Below.refl _ _).alloc (Nat.le_refl _) _))
        · intro a W1 h1 h2 h3 h4 h5 KK hKK
          obtain ⟨g, e1, e2, v0, v1, e3, -⟩ := h4 10 (by decide) (by kernel_rfl)
          refine st_stspK (j := 0) rfl (wanted_none rfl) rfl rfl e1 (h4 8 (by decide) (by kernel_rfl)) e3 (fun w' hw' hk' => hKK w' trivial (fun j hj hjk hr => ?_) (hw' _ e2))
          rcases (show j = 0 ∨ j = 1 ∨ j = 2 ∨ j = 3 ∨ j = 4 ∨ j = 5 ∨ j = 6 ∨ j = 7 ∨ j = 8 ∨ j = 9 ∨ j = 10 by omega) with hi0 | hi0 | hi0 | hi0 | hi0 | hi0 | hi0 | hi0 | hi0 | hi0 | hi0
          all_goals subst hi0
          · obtain ⟨gb, cb, hu, -⟩ := hr
            exact ⟨gb, cb, hu, fun hf => by cases hf⟩
          all_goals first
            | exact hr
            | exact ⟨g, e1, e2, _, _, hk', fun _ => ⟨rfl, rfl⟩⟩
        intro vs W2 hvs hS0 hB2
        have v1 : vs 1 = _ := hvs 1 (by omega) (by decide)
        have v2 : vs 2 = _ := hvs 2 (by omega) (by decide)
        have v3 : vs 3 = _ := hvs 3 (by omega) (by decide)
        have v4 : vs 4 = _ := hvs 4 (by omega) (by decide)
        have v5 : vs 5 = _ := hvs 5 (by omega) (by decide)
        have v6 : vs 6 = _ := hvs 6 (by omega) (by decide)
        have v7 : vs 7 = _ := hvs 7 (by omega) (by decide)
        have v8 : vs 8 = _ := hvs 8 (by omega) (by decide)
        have v9 : vs 9 = _ := hvs 9 (by omega) (by decide)
        obtain ⟨gb0, cb0, v0, -⟩ := hvs 0 (by omega) (by decide)
        obtain ⟨g39, v10, hg39, x0, x1, kg, hx⟩ := hvs 10 (by omega) (by decide)
        obtain ⟨rfl, rfl⟩ := hx rfl
        simp only [putSkip, Nat.reduceEqDiff, reduceIte, v0, v1, v2, v3, v4, v5, v6, v7, v8, v9, v10]
        clear v0 v1 v2 v3 v4 v5 v6 v7 v8 v9 v10 hvs hS0
        simp only [dstOf, Act.put, List.getElem?_toArray, List.getElem?_cons_zero, List.getElem?_cons_succ, Option.bind_some, Option.getD_some, List.setIfInBounds_toArray, List.set_cons_succ, List.set_cons_zero, List.drop_succ_cons, List.drop_zero]
        have kt2 := HT2.out.bel hB2
        obtain ⟨t0, t1, t2⟩ := heldCells_at k hlt
        have c1 := (kt2.cell (k * 3 + 1)).trans t1
        have c2 := (kt2.cell (k * 3 + 2)).trans t2
        have tl := kt2.lt
        have e0 := kg.cell 0
        have e1 := kg.cell 1
        have gl := kg.lt
        simp only [List.size_toArray, List.length_cons, List.length_nil, Nat.reduceAdd, Nat.reduceLT, getElem?_pos, List.getElem_toArray, List.getElem_cons_zero, List.getElem_cons_succ] at e0 e1
        have HB2 := Lib.hid (HBV.out.trans (hB2.mono HBV.out.size))
        generalize (heldRow k).2.1 = lo at *
        generalize (heldRow k).2.2 = hi at *
        generalize (heldRow k).1 = mm at *
        clear kt2 hB2 kg t0 t1 t2 hx
        have hneq : ∀ w, (Go.binOp .neq 23 (.agg #[.int .i64 (lo : Int), .int .i64 (hi : Int)]) (.agg #[.int .i64 (lo : Int), .int .i64 (hi : Int)])).run Tryd.prog w = .ok (.bool false) w := fun w => by rw [span_neq]; simp
        go_upto_region 37 with fail
        refine wp_region_ext (by kernel_rfl) (by kernel_rfl) ?_
        repeat (go_big_quiet_step (fail))
        go_big_quiet_step ((go_at_call 48; exact quiet_ext (To_any _ _ _)))
        repeat (go_big_quiet_step (fail))
        (refine wpQuiet_nil ?_; rintro _ ⟨x, rfl⟩)
        go_wp2_with fail
        go_roundw
        case rel => exact ⟨k + 1, by omega, by go_num, by refine ext_of (HB2.out.trans (Below.mono ?_ HB2.out.size)); (repeat (first | (with_reducible exact Below.refl _ _) | (with_reducible assumption) | ((with_reducible refine below_ext_trans ?_ ?_ _); rotate_left; focus (((try dsimp only); repeat (first | omega | simp only [World.size_alloc, World.size_setCell, World.size_drew] | (with_reducible refine le_ext_of ?_) | (with_reducible refine le_ext_add ?_))); done)) | ((with_reducible refine Below.alloc ?_ ?_ _); rotate_left; focus (((try dsimp only); repeat (first | omega | simp only [World.size_alloc, World.size_setCell, World.size_drew] | (with_reducible refine le_ext_of ?_) | (with_reducible refine le_ext_add ?_))); done)) | ((with_reducible refine Below.setCell ?_ ?_ _); rotate_left; focus (((try dsimp only); repeat (first | omega | simp only [World.size_alloc, World.size_setCell, World.size_drew] | (with_reducible refine le_ext_of ?_) | (with_reducible refine le_ext_add ?_))); done)) | (with_reducible refine Below.drew ?_)))⟩
        case measure => simp [intOf]; omega
      · obtain rfl : k = 5 := by omega
        go_wp2_with fail
        go_meet
        exact HBV.out
  have hBV := hcut
  generalize wc = V10 at *
  have HW10 := Lib.hid (HWT.out.trans (hBV.mono HWT.out.size))
  clear hcut hBV HWT HKT
  go_upto_region 40 with (first
    | (go_at_call 49; refine (book_none _).mono ?_; rintro e w1 ⟨gb, cb, rfl, hb9, y9, rfl⟩; have HBK := Lib.hid hb9; clear hb9)
    | (go_at_call 22; refine (Rate_b7 (HBK.out.below (by (repeat (first | (with_reducible exact Below.refl _ _) | (with_reducible refine bel_comp ?_) | (with_reducible refine bel_alloc ?_ _) | (with_reducible refine bel_ext ?_ _))))) (HN.out.below (HW10.out.trans (Below.mono (by (repeat (first | (with_reducible exact Below.refl _ _) | (with_reducible assumption) | ((with_reducible refine below_ext_trans ?_ ?_ _); rotate_left; focus (((try dsimp only); repeat (first | omega | simp only [World.size_alloc, World.size_setCell, World.size_drew] | (with_reducible refine le_ext_of ?_) | (with_reducible refine le_ext_add ?_))); done)) | ((with_reducible refine Below.alloc ?_ ?_ _); rotate_left; focus (((try dsimp only); repeat (first | omega | simp only [World.size_alloc, World.size_setCell, World.size_drew] | (with_reducible refine le_ext_of ?_) | (with_reducible refine le_ext_add ?_))); done)) | ((with_reducible refine Below.setCell ?_ ?_ _); rotate_left; focus (((try dsimp only); repeat (first | omega | simp only [World.size_alloc, World.size_setCell, World.size_drew] | (with_reducible refine le_ext_of ?_) | (with_reducible refine le_ext_add ?_))); done)) | (with_reducible refine Below.drew ?_)))) HW10.out.size)))).mono ?_; rintro e w1 ⟨rfl, y8, rfl⟩))
  obtain ⟨gr41, hg⟩ : ∃ g, g = (ext V10 (y9.comp y8)).heap.size := ⟨_, rfl⟩
  rw [← hg]
  generalize hE : (ext V10 (y9.comp y8)).alloc _ = V11 at *
  have hB : Below V10.heap.size V10 V11 := by rw [← hE]; exact (below_ext _ _).alloc (below_ext _ _).size _
  have Kr41 := Lib.hid (show Blk V11 gr41 23 #[.int .i64 0, .int .i64 0] by rw [← hE]; exact Blk.new hg)
  have HW11 := Lib.hid (HW10.out.trans (hB.mono HW10.out.size))
  clear hE hB HW10 HBK hg
  go_upto_region 41 with (first
    | (go_at_call 49; refine (book_none _).mono ?_; rintro e w1 ⟨gb, cb, rfl, hb9, y9, rfl⟩; have HBK := Lib.hid hb9; clear hb9)
    | (go_at_call 22; refine (Rate_b18 (HBK.out.below (by (repeat (first | (with_reducible exact Below.refl _ _) | (with_reducible refine bel_comp ?_) | (with_reducible refine bel_alloc ?_ _) | (with_reducible refine bel_ext ?_ _))))) (HN.out.below (HW11.out.trans (Below.mono (by (repeat (first | (with_reducible exact Below.refl _ _) | (with_reducible assumption) | ((with_reducible refine below_ext_trans ?_ ?_ _); rotate_left; focus (((try dsimp only); repeat (first | omega | simp only [World.size_alloc, World.size_setCell, World.size_drew] | (with_reducible refine le_ext_of ?_) | (with_reducible refine le_ext_add ?_))); done)) | ((with_reducible refine Below.alloc ?_ ?_ _); rotate_left; focus (((try dsimp only); repeat (first | omega | simp only [World.size_alloc, World.size_setCell, World.size_drew] | (with_reducible refine le_ext_of ?_) | (with_reducible refine le_ext_add ?_))); done)) | ((with_reducible refine Below.setCell ?_ ?_ _); rotate_left; focus (((try dsimp only); repeat (first | omega | simp only [World.size_alloc, World.size_setCell, World.size_drew] | (with_reducible refine le_ext_of ?_) | (with_reducible refine le_ext_add ?_))); done)) | (with_reducible refine Below.drew ?_)))) HW11.out.size)))).mono ?_; rintro e w1 ⟨rfl, y8, rfl⟩))
  obtain ⟨gr42, hg⟩ : ∃ g, g = (ext V11 (y9.comp y8)).heap.size := ⟨_, rfl⟩
  rw [← hg]
  generalize hE : (ext V11 (y9.comp y8)).alloc _ = V12 at *
  have hB : Below V11.heap.size V11 V12 := by rw [← hE]; exact (below_ext _ _).alloc (below_ext _ _).size _
  have Kr42 := Lib.hid (show Blk V12 gr42 23 #[.int .i64 0, .int .i64 0] by rw [← hE]; exact Blk.new hg)
  have Nr41 := Lib.hid (Kr41.out.bel hB)
  clear Kr41
  have Kr41 := Nr41
  clear Nr41
  have HW12 := Lib.hid (HW11.out.trans (hB.mono HW11.out.size))
  clear hE hB HW11 HBK hg
  go_upto_region 42 with (first
    | (go_at_call 49; refine (book_none _).mono ?_; rintro e w1 ⟨gb, cb, rfl, hb9, y9, rfl⟩; have HBK := Lib.hid hb9; clear hb9)
    | (go_at_call 27; refine (Saved_b (HBK.out.below (by (repeat (first | (with_reducible exact Below.refl _ _) | (with_reducible refine bel_comp ?_) | (with_reducible refine bel_alloc ?_ _) | (with_reducible refine bel_ext ?_ _))))) (HN.out.below (HW12.out.trans (Below.mono (by (repeat (first | (with_reducible exact Below.refl _ _) | (with_reducible assumption) | ((with_reducible refine below_ext_trans ?_ ?_ _); rotate_left; focus (((try dsimp only); repeat (first | omega | simp only [World.size_alloc, World.size_setCell, World.size_drew] | (with_reducible refine le_ext_of ?_) | (with_reducible refine le_ext_add ?_))); done)) | ((with_reducible refine Below.alloc ?_ ?_ _); rotate_left; focus (((try dsimp only); repeat (first | omega | simp only [World.size_alloc, World.size_setCell, World.size_drew] | (with_reducible refine le_ext_of ?_) | (with_reducible refine le_ext_add ?_))); done)) | ((with_reducible refine Below.setCell ?_ ?_ _); rotate_left; focus (((try dsimp only); repeat (first | omega | simp only [World.size_alloc, World.size_setCell, World.size_drew] | (with_reducible refine le_ext_of ?_) | (with_reducible refine le_ext_add ?_))); done)) | (with_reducible refine Below.drew ?_)))) HW12.out.size)))).mono ?_; rintro e w1 ⟨rfl, y8, rfl⟩))
  obtain ⟨gr43, hg⟩ : ∃ g, g = (ext V12 (y9.comp y8)).heap.size := ⟨_, rfl⟩
  rw [← hg]
  generalize hE : (ext V12 (y9.comp y8)).alloc _ = V13 at *
  have hB : Below V12.heap.size V12 V13 := by rw [← hE]; exact (below_ext _ _).alloc (below_ext _ _).size _
  have Kr43 := Lib.hid (show Blk V13 gr43 23 #[.int .i64 0, .int .i64 0] by rw [← hE]; exact Blk.new hg)
  have Nr41 := Lib.hid (Kr41.out.bel hB)
  clear Kr41
  have Kr41 := Nr41
  clear Nr41
  have Nr42 := Lib.hid (Kr42.out.bel hB)
  clear Kr42
  have Kr42 := Nr42
  clear Nr42
  have HW13 := Lib.hid (HW12.out.trans (hB.mono HW12.out.size))
  clear hE hB HW12 HBK hg
  go_upto_region 43 with (first
    | (go_at_call 49; refine (book_none _).mono ?_; rintro e w1 ⟨gb, cb, rfl, hb9, y9, rfl⟩; have HBK := Lib.hid hb9; clear hb9)
    | (go_at_call 18; refine (Can_b56 (HBK.out.below (by (repeat (first | (with_reducible exact Below.refl _ _) | (with_reducible refine bel_comp ?_) | (with_reducible refine bel_alloc ?_ _) | (with_reducible refine bel_ext ?_ _))))) (HN.out.below (HW13.out.trans (Below.mono (by (repeat (first | (with_reducible exact Below.refl _ _) | (with_reducible assumption) | ((with_reducible refine below_ext_trans ?_ ?_ _); rotate_left; focus (((try dsimp only); repeat (first | omega | simp only [World.size_alloc, World.size_setCell, World.size_drew] | (with_reducible refine le_ext_of ?_) | (with_reducible refine le_ext_add ?_))); done)) | ((with_reducible refine Below.alloc ?_ ?_ _); rotate_left; focus (((try dsimp only); repeat (first | omega | simp only [World.size_alloc, World.size_setCell, World.size_drew] | (with_reducible refine le_ext_of ?_) | (with_reducible refine le_ext_add ?_))); done)) | ((with_reducible refine Below.setCell ?_ ?_ _); rotate_left; focus (((try dsimp only); repeat (first | omega | simp only [World.size_alloc, World.size_setCell, World.size_drew] | (with_reducible refine le_ext_of ?_) | (with_reducible refine le_ext_add ?_))); done)) | (with_reducible refine Below.drew ?_)))) HW13.out.size)))).mono ?_; rintro e w1 ⟨rfl, y8, rfl⟩))
  generalize hE : ext V13 (y9.comp y8) = V14 at *
  have hB : Below V13.heap.size V13 V14 := by rw [← hE]; exact below_ext _ _
  have Nr41 := Lib.hid (Kr41.out.bel hB)
  clear Kr41
  have Kr41 := Nr41
  clear Nr41
  have Nr42 := Lib.hid (Kr42.out.bel hB)
  clear Kr42
  have Kr42 := Nr42
  clear Nr42
  have Nr43 := Lib.hid (Kr43.out.bel hB)
  clear Kr43
  have Kr43 := Nr43
  clear Nr43
  have HW14 := Lib.hid (HW13.out.trans (hB.mono HW13.out.size))
  clear hE hB HW13 HBK
  go_upto_region 44 with (first
    | (go_at_call 49; refine (book_none _).mono ?_; rintro e w1 ⟨gb, cb, rfl, hb9, y9, rfl⟩; have HBK := Lib.hid hb9; clear hb9)
    | (go_at_call 18; refine (Can_b75 (HBK.out.below (by (repeat (first | (with_reducible exact Below.refl _ _) | (with_reducible refine bel_comp ?_) | (with_reducible refine bel_alloc ?_ _) | (with_reducible refine bel_ext ?_ _))))) (HN.out.below (HW14.out.trans (Below.mono (by (repeat (first | (with_reducible exact Below.refl _ _) | (with_reducible assumption) | ((with_reducible refine below_ext_trans ?_ ?_ _); rotate_left; focus (((try dsimp only); repeat (first | omega | simp only [World.size_alloc, World.size_setCell, World.size_drew] | (with_reducible refine le_ext_of ?_) | (with_reducible refine le_ext_add ?_))); done)) | ((with_reducible refine Below.alloc ?_ ?_ _); rotate_left; focus (((try dsimp only); repeat (first | omega | simp only [World.size_alloc, World.size_setCell, World.size_drew] | (with_reducible refine le_ext_of ?_) | (with_reducible refine le_ext_add ?_))); done)) | ((with_reducible refine Below.setCell ?_ ?_ _); rotate_left; focus (((try dsimp only); repeat (first | omega | simp only [World.size_alloc, World.size_setCell, World.size_drew] | (with_reducible refine le_ext_of ?_) | (with_reducible refine le_ext_add ?_))); done)) | (with_reducible refine Below.drew ?_)))) HW14.out.size)))).mono ?_; rintro e w1 ⟨rfl, y8, rfl⟩))
  generalize hE : ext V14 (y9.comp y8) = V15 at *
  have hB : Below V14.heap.size V14 V15 := by rw [← hE]; exact below_ext _ _
  have Nr41 := Lib.hid (Kr41.out.bel hB)
  clear Kr41
  have Kr41 := Nr41
  clear Nr41
  have Nr42 := Lib.hid (Kr42.out.bel hB)
  clear Kr42
  have Kr42 := Nr42
  clear Nr42
  have Nr43 := Lib.hid (Kr43.out.bel hB)
  clear Kr43
  have Kr43 := Nr43
  clear Nr43
  have HW15 := Lib.hid (HW14.out.trans (hB.mono HW14.out.size))
  clear hE hB HW14 HBK
  go_upto_region 45 with (first
    | (go_at_call 49; refine (book_none _).mono ?_; rintro e w1 ⟨gb, cb, rfl, hb9, y9, rfl⟩; have HBK := Lib.hid hb9; clear hb9)
    | (go_at_call 48; refine (To_any _ _ _).mono ?_; rintro e w1 ⟨rfl, y7, rfl⟩)
    | (go_at_call 40; refine (note_any _ _ _ _ _).mono ?_; rintro e w1 ⟨rfl, y6, rfl⟩)
    | (go_at_call 29; refine (Fits_b1 (HBK.out.below (by (repeat (first | (with_reducible exact Below.refl _ _) | (with_reducible refine bel_comp ?_) | (with_reducible refine bel_alloc ?_ _) | (with_reducible refine bel_ext ?_ _))))) (HN.out.below (HW15.out.trans (Below.mono (by (repeat (first | (with_reducible exact Below.refl _ _) | (with_reducible assumption) | ((with_reducible refine below_ext_trans ?_ ?_ _); rotate_left; focus (((try dsimp only); repeat (first | omega | simp only [World.size_alloc, World.size_setCell, World.size_drew] | (with_reducible refine le_ext_of ?_) | (with_reducible refine le_ext_add ?_))); done)) | ((with_reducible refine Below.alloc ?_ ?_ _); rotate_left; focus (((try dsimp only); repeat (first | omega | simp only [World.size_alloc, World.size_setCell, World.size_drew] | (with_reducible refine le_ext_of ?_) | (with_reducible refine le_ext_add ?_))); done)) | ((with_reducible refine Below.setCell ?_ ?_ _); rotate_left; focus (((try dsimp only); repeat (first | omega | simp only [World.size_alloc, World.size_setCell, World.size_drew] | (with_reducible refine le_ext_of ?_) | (with_reducible refine le_ext_add ?_))); done)) | (with_reducible refine Below.drew ?_)))) HW15.out.size)))).mono ?_; rintro e w1 ⟨rfl, y8, rfl⟩))
  generalize hE : ext V15 (((y9.comp y7).comp y6).comp y8) = V16 at *
  have hB : Below V15.heap.size V15 V16 := by rw [← hE]; exact below_ext _ _
  have Nr41 := Lib.hid (Kr41.out.bel hB)
  clear Kr41
  have Kr41 := Nr41
  clear Nr41
  have Nr42 := Lib.hid (Kr42.out.bel hB)
  clear Kr42
  have Kr42 := Nr42
  clear Nr42
  have Nr43 := Lib.hid (Kr43.out.bel hB)
  clear Kr43
  have Kr43 := Nr43
  clear Nr43
  have HW16 := Lib.hid (HW15.out.trans (hB.mono HW15.out.size))
  clear hE hB HW15 HBK
  go_upto_region 46 with (first
    | (go_at_call 49; refine (book_none _).mono ?_; rintro e w1 ⟨gb, cb, rfl, hb9, y9, rfl⟩; have HBK := Lib.hid hb9; clear hb9)
    | (go_at_call 39; refine (Just_any _ _).mono ?_; rintro e w1 ⟨rfl, y7, rfl⟩)
    | (go_at_call 40; refine (note_any _ _ _ _ _).mono ?_; rintro e w1 ⟨rfl, y6, rfl⟩)
    | (go_at_call 29; refine (Fits_b2 (HBK.out.below (by (repeat (first | (with_reducible exact Below.refl _ _) | (with_reducible refine bel_comp ?_) | (with_reducible refine bel_alloc ?_ _) | (with_reducible refine bel_ext ?_ _))))) (HN.out.below (HW16.out.trans (Below.mono (by (repeat (first | (with_reducible exact Below.refl _ _) | (with_reducible assumption) | ((with_reducible refine below_ext_trans ?_ ?_ _); rotate_left; focus (((try dsimp only); repeat (first | omega | simp only [World.size_alloc, World.size_setCell, World.size_drew] | (with_reducible refine le_ext_of ?_) | (with_reducible refine le_ext_add ?_))); done)) | ((with_reducible refine Below.alloc ?_ ?_ _); rotate_left; focus (((try dsimp only); repeat (first | omega | simp only [World.size_alloc, World.size_setCell, World.size_drew] | (with_reducible refine le_ext_of ?_) | (with_reducible refine le_ext_add ?_))); done)) | ((with_reducible refine Below.setCell ?_ ?_ _); rotate_left; focus (((try dsimp only); repeat (first | omega | simp only [World.size_alloc, World.size_setCell, World.size_drew] | (with_reducible refine le_ext_of ?_) | (with_reducible refine le_ext_add ?_))); done)) | (with_reducible refine Below.drew ?_)))) HW16.out.size)))).mono ?_; rintro e w1 ⟨rfl, y8, rfl⟩))
  generalize hE : ext V16 (((y9.comp y7).comp y6).comp y8) = V17 at *
  have hB : Below V16.heap.size V16 V17 := by rw [← hE]; exact below_ext _ _
  have Nr41 := Lib.hid (Kr41.out.bel hB)
  clear Kr41
  have Kr41 := Nr41
  clear Nr41
  have Nr42 := Lib.hid (Kr42.out.bel hB)
  clear Kr42
  have Kr42 := Nr42
  clear Nr42
  have Nr43 := Lib.hid (Kr43.out.bel hB)
  clear Kr43
  have Kr43 := Nr43
  clear Nr43
  have HW17 := Lib.hid (HW16.out.trans (hB.mono HW16.out.size))
  clear hE hB HW16 HBK
  go_upto_region 47 with (first
    | (go_at_call 49; refine (book_none _).mono ?_; rintro e w1 ⟨gb, cb, rfl, hb9, y9, rfl⟩; have HBK := Lib.hid hb9; clear hb9)
    | (go_at_call 39; refine (Just_any _ _).mono ?_; rintro e w1 ⟨rfl, y7, rfl⟩)
    | (go_at_call 40; refine (note_any _ _ _ _ _).mono ?_; rintro e w1 ⟨rfl, y6, rfl⟩)
    | (go_at_call 29; refine (Fits_b3 (HBK.out.below (by (repeat (first | (with_reducible exact Below.refl _ _) | (with_reducible refine bel_comp ?_) | (with_reducible refine bel_alloc ?_ _) | (with_reducible refine bel_ext ?_ _))))) (HN.out.below (HW17.out.trans (Below.mono (by (repeat (first | (with_reducible exact Below.refl _ _) | (with_reducible assumption) | ((with_reducible refine below_ext_trans ?_ ?_ _); rotate_left; focus (((try dsimp only); repeat (first | omega | simp only [World.size_alloc, World.size_setCell, World.size_drew] | (with_reducible refine le_ext_of ?_) | (with_reducible refine le_ext_add ?_))); done)) | ((with_reducible refine Below.alloc ?_ ?_ _); rotate_left; focus (((try dsimp only); repeat (first | omega | simp only [World.size_alloc, World.size_setCell, World.size_drew] | (with_reducible refine le_ext_of ?_) | (with_reducible refine le_ext_add ?_))); done)) | ((with_reducible refine Below.setCell ?_ ?_ _); rotate_left; focus (((try dsimp only); repeat (first | omega | simp only [World.size_alloc, World.size_setCell, World.size_drew] | (with_reducible refine le_ext_of ?_) | (with_reducible refine le_ext_add ?_))); done)) | (with_reducible refine Below.drew ?_)))) HW17.out.size)))).mono ?_; rintro e w1 ⟨rfl, y8, rfl⟩))
  generalize hE : ext V17 (((y9.comp y7).comp y6).comp y8) = V18 at *
  have hB : Below V17.heap.size V17 V18 := by rw [← hE]; exact below_ext _ _
  have Nr41 := Lib.hid (Kr41.out.bel hB)
  clear Kr41
  have Kr41 := Nr41
  clear Nr41
  have Nr42 := Lib.hid (Kr42.out.bel hB)
  clear Kr42
  have Kr42 := Nr42
  clear Nr42
  have Nr43 := Lib.hid (Kr43.out.bel hB)
  clear Kr43
  have Kr43 := Nr43
  clear Nr43
  have HW18 := Lib.hid (HW17.out.trans (hB.mono HW17.out.size))
  clear hE hB HW17 HBK
  go_upto_region 48 with (first
    | (go_at_call 49; refine (book_none _).mono ?_; rintro e w1 ⟨gb, cb, rfl, hb9, y9, rfl⟩; have HBK := Lib.hid hb9; clear hb9)
    | (go_at_call 31; refine (Wrong_b (HBK.out.below (by (repeat (first | (with_reducible exact Below.refl _ _) | (with_reducible refine bel_comp ?_) | (with_reducible refine bel_alloc ?_ _) | (with_reducible refine bel_ext ?_ _))))) (HN.out.below (HW18.out.trans (Below.mono (by (repeat (first | (with_reducible exact Below.refl _ _) | (with_reducible assumption) | ((with_reducible refine below_ext_trans ?_ ?_ _); rotate_left; focus (((try dsimp only); repeat (first | omega | simp only [World.size_alloc, World.size_setCell, World.size_drew] | (with_reducible refine le_ext_of ?_) | (with_reducible refine le_ext_add ?_))); done)) | ((with_reducible refine Below.alloc ?_ ?_ _); rotate_left; focus (((try dsimp only); repeat (first | omega | simp only [World.size_alloc, World.size_setCell, World.size_drew] | (with_reducible refine le_ext_of ?_) | (with_reducible refine le_ext_add ?_))); done)) | ((with_reducible refine Below.setCell ?_ ?_ _); rotate_left; focus (((try dsimp only); repeat (first | omega | simp only [World.size_alloc, World.size_setCell, World.size_drew] | (with_reducible refine le_ext_of ?_) | (with_reducible refine le_ext_add ?_))); done)) | (with_reducible refine Below.drew ?_)))) HW18.out.size)))).mono ?_; rintro e w1 ⟨pw, cw, rfl, y8, rfl⟩))
  generalize hE : ext V18 (y9.comp y8) = V19 at *
  have hB : Below V18.heap.size V18 V19 := by rw [← hE]; exact below_ext _ _
  have Nr41 := Lib.hid (Kr41.out.bel hB)
  clear Kr41
  have Kr41 := Nr41
  clear Nr41
  have Nr42 := Lib.hid (Kr42.out.bel hB)
  clear Kr42
  have Kr42 := Nr42
  clear Nr42
  have Nr43 := Lib.hid (Kr43.out.bel hB)
  clear Kr43
  have Kr43 := Nr43
  clear Nr43
  have HW19 := Lib.hid (HW18.out.trans (hB.mono HW18.out.size))
  clear hE hB HW18 HBK
  go_upto_region 49 with (first
    | (go_at_call 51; refine (leaky_any _).mono ?_; rintro e w1 ⟨gb, cb, rfl, hb9, y9, rfl⟩; have HBK := Lib.hid hb9; clear hb9)
    | (go_at_call 22; refine (Rate_l1 (HBK.out.below (by (repeat (first | (with_reducible exact Below.refl _ _) | (with_reducible refine bel_comp ?_) | (with_reducible refine bel_alloc ?_ _) | (with_reducible refine bel_ext ?_ _))))) (HN.out.below (HW19.out.trans (Below.mono (by (repeat (first | (with_reducible exact Below.refl _ _) | (with_reducible assumption) | ((with_reducible refine below_ext_trans ?_ ?_ _); rotate_left; focus (((try dsimp only); repeat (first | omega | simp only [World.size_alloc, World.size_setCell, World.size_drew] | (with_reducible refine le_ext_of ?_) | (with_reducible refine le_ext_add ?_))); done)) | ((with_reducible refine Below.alloc ?_ ?_ _); rotate_left; focus (((try dsimp only); repeat (first | omega | simp only [World.size_alloc, World.size_setCell, World.size_drew] | (with_reducible refine le_ext_of ?_) | (with_reducible refine le_ext_add ?_))); done)) | ((with_reducible refine Below.setCell ?_ ?_ _); rotate_left; focus (((try dsimp only); repeat (first | omega | simp only [World.size_alloc, World.size_setCell, World.size_drew] | (with_reducible refine le_ext_of ?_) | (with_reducible refine le_ext_add ?_))); done)) | (with_reducible refine Below.drew ?_)))) HW19.out.size)))).mono ?_; rintro e w1 ⟨rfl, y8, rfl⟩))
  obtain ⟨gr50, hg⟩ : ∃ g, g = (ext V19 (y9.comp y8)).heap.size := ⟨_, rfl⟩
  rw [← hg]
  generalize hE : (ext V19 (y9.comp y8)).alloc _ = V20 at *
  have hB : Below V19.heap.size V19 V20 := by rw [← hE]; exact (below_ext _ _).alloc (below_ext _ _).size _
  have Kr50 := Lib.hid (show Blk V20 gr50 23 #[.int .i64 0, .int .i64 0] by rw [← hE]; exact Blk.new hg)
  have Nr41 := Lib.hid (Kr41.out.bel hB)
  clear Kr41
  have Kr41 := Nr41
  clear Nr41
  have Nr42 := Lib.hid (Kr42.out.bel hB)
  clear Kr42
  have Kr42 := Nr42
  clear Nr42
  have Nr43 := Lib.hid (Kr43.out.bel hB)
  clear Kr43
  have Kr43 := Nr43
  clear Nr43
  have HW20 := Lib.hid (HW19.out.trans (hB.mono HW19.out.size))
  clear hE hB HW19 HBK hg
  have HNL := Lib.hid (HN.out.below HW20.out)
  refine wp_region_flow 86 480 (lastK pw cw) (by kernel_rfl) (by kernel_rfl) rfl (lastK_kept pw cw) ?_ ?_
  · intro i hin a W h1 h2 h3 h4 h5 K hK
    have D20 : a.tmps.getD 20 undef = .int .i64 0 := h3 20 (by kernel_rfl)
    have D22 : a.tmps.getD 22 undef = .int .i64 0 := h3 22 (by kernel_rfl)
    have D24 : a.tmps.getD 24 undef = .int .i64 0 := h3 24 (by kernel_rfl)
    have D26 : a.tmps.getD 26 undef = .int .i64 0 := h3 26 (by kernel_rfl)
    have D28 : a.tmps.getD 28 undef = .int .i64 0 := h3 28 (by kernel_rfl)
    have D30 : a.tmps.getD 30 undef = .int .i64 0 := h3 30 (by kernel_rfl)
    have D32 : a.tmps.getD 32 undef = .int .i64 0 := h3 32 (by kernel_rfl)
    have D34 : a.tmps.getD 34 undef = .int .i64 0 := h3 34 (by kernel_rfl)
    have D36 : a.tmps.getD 36 undef = .int .i64 0 := h3 36 (by kernel_rfl)
    have D41 : a.tmps.getD 41 undef = .pointer (some ⟨gr41, 0, none⟩) := h3 41 (by kernel_rfl)
    have D42 : a.tmps.getD 42 undef = .pointer (some ⟨gr42, 0, none⟩) := h3 42 (by kernel_rfl)
    have D43 : a.tmps.getD 43 undef = .pointer (some ⟨gr43, 0, none⟩) := h3 43 (by kernel_rfl)
    have D44 : a.tmps.getD 44 undef = .bool false := h3 44 (by kernel_rfl)
    have D45 : a.tmps.getD 45 undef = .bool false := h3 45 (by kernel_rfl)
    have D46 : a.tmps.getD 46 undef = .bool true := h3 46 (by kernel_rfl)
    have D47 : a.tmps.getD 47 undef = .bool true := h3 47 (by kernel_rfl)
    have D48 : a.tmps.getD 48 undef = .bool false := h3 48 (by kernel_rfl)
    have D49 : a.tmps.getD 49 undef = .slice pw 0 cw := h3 49 (by kernel_rfl)
    have D50 : a.tmps.getD 50 undef = .pointer (some ⟨gr50, 0, none⟩) := h3 50 (by kernel_rfl)
    have D51 : a.tmps.getD 51 undef = .int .i64 0 := h3 51 (by kernel_rfl)
    clear h3
    match i, hin with
    | 0, _ =>
      exact st_move rfl rfl (wanted_none rfl) D20 (hK _ _ rfl (Below.refl _ _))
    | 1, _ =>
      exact st_eqS rfl rfl (wanted_none rfl) (h4 0 (by kernel_rfl)) (hK _ _ (by rfl) (Below.refl _ _))
    | 2, _ =>
      exact st_move rfl rfl (wanted_none rfl) (h4 1 (by kernel_rfl)) (hK _ _ rfl (Below.refl _ _))
    | 3, _ =>
      exact st_val rfl (wanted_some (s := 396) rfl rfl (h4 2 (by kernel_rfl))) (run_lSpanK _ rfl D41 (Kr41.out.bel h5)) (hK _ _ rfl (Below.refl _ _))
    | 4, _ =>
      refine st_call rfl rfl (wanted_some (s := 396) rfl rfl (h4 2 (by kernel_rfl))) (vs := #[.int .i64 0]) (by simp [Act.eval]) (run_enter Tryd.func39 (by kernel_rfl) (by kernel_rfl) _) ?_
      refine (Just_any _ _).mono ?_
      rintro e w1 ⟨rfl, y, rfl⟩
      exact ⟨_, rfl, hK _ _ rfl (below_ext _ _)⟩
    | 5, _ =>
      exact st_val rfl (wanted_some (s := 396) rfl rfl (h4 2 (by kernel_rfl))) (run_spanEq _ rfl (h4 3 (by kernel_rfl)) (h4 4 (by kernel_rfl))) (hK _ _ rfl (Below.refl _ _))
    | 6, _ =>
      exact st_pick rfl rfl (wanted_none rfl) (h4 2 (by kernel_rfl)) (by rw [if_pos rfl]; exact (h4 5 (by kernel_rfl))) (hK _ _ rfl (Below.refl _ _))
    | 7, _ =>
      exact st_move rfl rfl (wanted_none rfl) (h4 6 (by kernel_rfl)) (hK _ _ rfl (Below.refl _ _))
    | 8, _ =>
      exact st_move rfl rfl (wanted_some (s := 401) rfl rfl (h4 7 (by kernel_rfl))) D22 (hK _ _ rfl (Below.refl _ _))
    | 9, _ =>
      exact st_eqS rfl rfl (wanted_some (s := 401) rfl rfl (h4 7 (by kernel_rfl))) (h4 8 (by kernel_rfl)) (hK _ _ (by rfl) (Below.refl _ _))
    | 10, _ =>
      exact st_pick rfl rfl (wanted_none rfl) (h4 7 (by kernel_rfl)) (by rw [if_pos rfl]; exact (h4 9 (by kernel_rfl))) (hK _ _ rfl (Below.refl _ _))
    | 11, _ =>
      exact st_move rfl rfl (wanted_none rfl) (h4 10 (by kernel_rfl)) (hK _ _ rfl (Below.refl _ _))
    | 12, _ =>
      exact st_val rfl (wanted_some (s := 405) rfl rfl (h4 11 (by kernel_rfl))) (run_lSpanK _ rfl D42 (Kr42.out.bel h5)) (hK _ _ rfl (Below.refl _ _))
    | 13, _ =>
      refine st_call rfl rfl (wanted_some (s := 405) rfl rfl (h4 11 (by kernel_rfl))) (vs := #[.int .i64 0]) (by simp [Act.eval]) (run_enter Tryd.func39 (by kernel_rfl) (by kernel_rfl) _) ?_
      refine (Just_any _ _).mono ?_
      rintro e w1 ⟨rfl, y, rfl⟩
      exact ⟨_, rfl, hK _ _ rfl (below_ext _ _)⟩
    | 14, _ =>
      exact st_val rfl (wanted_some (s := 405) rfl rfl (h4 11 (by kernel_rfl))) (run_spanEq _ rfl (h4 12 (by kernel_rfl)) (h4 13 (by kernel_rfl))) (hK _ _ rfl (Below.refl _ _))
    | 15, _ =>
      exact st_pick rfl rfl (wanted_none rfl) (h4 11 (by kernel_rfl)) (by rw [if_pos rfl]; exact (h4 14 (by kernel_rfl))) (hK _ _ rfl (Below.refl _ _))
    | 16, _ =>
      exact st_move rfl rfl (wanted_none rfl) (h4 15 (by kernel_rfl)) (hK _ _ rfl (Below.refl _ _))
    | 17, _ =>
      exact st_move rfl rfl (wanted_some (s := 410) rfl rfl (h4 16 (by kernel_rfl))) D24 (hK _ _ rfl (Below.refl _ _))
    | 18, _ =>
      exact st_eqS rfl rfl (wanted_some (s := 410) rfl rfl (h4 16 (by kernel_rfl))) (h4 17 (by kernel_rfl)) (hK _ _ (by rfl) (Below.refl _ _))
    | 19, _ =>
      exact st_pick rfl rfl (wanted_none rfl) (h4 16 (by kernel_rfl)) (by rw [if_pos rfl]; exact (h4 18 (by kernel_rfl))) (hK _ _ rfl (Below.refl _ _))
    | 20, _ =>
      exact st_move rfl rfl (wanted_none rfl) (h4 19 (by kernel_rfl)) (hK _ _ rfl (Below.refl _ _))
    | 21, _ =>
      exact st_val rfl (wanted_some (s := 414) rfl rfl (h4 20 (by kernel_rfl))) (run_lSpanK _ rfl D43 (Kr43.out.bel h5)) (hK _ _ rfl (Below.refl _ _))
    | 22, _ =>
      refine st_call rfl rfl (wanted_some (s := 414) rfl rfl (h4 20 (by kernel_rfl))) (vs := #[.int .i64 0]) (by simp [Act.eval]) (run_enter Tryd.func39 (by kernel_rfl) (by kernel_rfl) _) ?_
      refine (Just_any _ _).mono ?_
      rintro e w1 ⟨rfl, y, rfl⟩
      exact ⟨_, rfl, hK _ _ rfl (below_ext _ _)⟩
    | 23, _ =>
      exact st_val rfl (wanted_some (s := 414) rfl rfl (h4 20 (by kernel_rfl))) (run_spanEq _ rfl (h4 21 (by kernel_rfl)) (h4 22 (by kernel_rfl))) (hK _ _ rfl (Below.refl _ _))
    | 24, _ =>
      exact st_pick rfl rfl (wanted_none rfl) (h4 20 (by kernel_rfl)) (by rw [if_pos rfl]; exact (h4 23 (by kernel_rfl))) (hK _ _ rfl (Below.refl _ _))
    | 25, _ =>
      exact st_move rfl rfl (wanted_none rfl) (h4 24 (by kernel_rfl)) (hK _ _ rfl (Below.refl _ _))
    | 26, _ =>
      exact st_move rfl rfl (wanted_some (s := 419) rfl rfl (h4 25 (by kernel_rfl))) D26 (hK _ _ rfl (Below.refl _ _))
    | 27, _ =>
      exact st_eqS rfl rfl (wanted_some (s := 419) rfl rfl (h4 25 (by kernel_rfl))) (h4 26 (by kernel_rfl)) (hK _ _ (by rfl) (Below.refl _ _))
    | 28, _ =>
      exact st_pick rfl rfl (wanted_none rfl) (h4 25 (by kernel_rfl)) (by rw [if_pos rfl]; exact (h4 27 (by kernel_rfl))) (hK _ _ rfl (Below.refl _ _))
    | 29, _ =>
      exact st_move rfl rfl (wanted_none rfl) (h4 28 (by kernel_rfl)) (hK _ _ rfl (Below.refl _ _))
    | 30, _ =>
      exact st_move rfl rfl (wanted_some (s := 423) rfl rfl (h4 29 (by kernel_rfl))) D44 (hK _ _ rfl (Below.refl _ _))
    | 31, _ =>
      exact st_not rfl rfl (wanted_some (s := 423) rfl rfl (h4 29 (by kernel_rfl))) (h4 30 (by kernel_rfl)) (hK _ _ (by rfl) (Below.refl _ _))
    | 32, _ =>
      exact st_pick rfl rfl (wanted_none rfl) (h4 29 (by kernel_rfl)) (by rw [if_pos rfl]; exact (h4 31 (by kernel_rfl))) (hK _ _ rfl (Below.refl _ _))
    | 33, _ =>
      exact st_move rfl rfl (wanted_none rfl) (h4 32 (by kernel_rfl)) (hK _ _ rfl (Below.refl _ _))
    | 34, _ =>
      exact st_move rfl rfl (wanted_some (s := 427) rfl rfl (h4 33 (by kernel_rfl))) D28 (hK _ _ rfl (Below.refl _ _))
    | 35, _ =>
      exact st_eqS rfl rfl (wanted_some (s := 427) rfl rfl (h4 33 (by kernel_rfl))) (h4 34 (by kernel_rfl)) (hK _ _ (by rfl) (Below.refl _ _))
    | 36, _ =>
      exact st_pick rfl rfl (wanted_none rfl) (h4 33 (by kernel_rfl)) (by rw [if_pos rfl]; exact (h4 35 (by kernel_rfl))) (hK _ _ rfl (Below.refl _ _))
    | 37, _ =>
      exact st_move rfl rfl (wanted_none rfl) (h4 36 (by kernel_rfl)) (hK _ _ rfl (Below.refl _ _))
    | 38, _ =>
      exact st_move rfl rfl (wanted_some (s := 431) rfl rfl (h4 37 (by kernel_rfl))) D45 (hK _ _ rfl (Below.refl _ _))
    | 39, _ =>
      exact st_not rfl rfl (wanted_some (s := 431) rfl rfl (h4 37 (by kernel_rfl))) (h4 38 (by kernel_rfl)) (hK _ _ (by rfl) (Below.refl _ _))
    | 40, _ =>
      exact st_pick rfl rfl (wanted_none rfl) (h4 37 (by kernel_rfl)) (by rw [if_pos rfl]; exact (h4 39 (by kernel_rfl))) (hK _ _ rfl (Below.refl _ _))
    | 41, _ =>
      exact st_move rfl rfl (wanted_none rfl) (h4 40 (by kernel_rfl)) (hK _ _ rfl (Below.refl _ _))
    | 42, _ =>
      exact st_move rfl rfl (wanted_some (s := 435) rfl rfl (h4 41 (by kernel_rfl))) D30 (hK _ _ rfl (Below.refl _ _))
    | 43, _ =>
      exact st_eqS rfl rfl (wanted_some (s := 435) rfl rfl (h4 41 (by kernel_rfl))) (h4 42 (by kernel_rfl)) (hK _ _ (by rfl) (Below.refl _ _))
    | 44, _ =>
      exact st_pick rfl rfl (wanted_none rfl) (h4 41 (by kernel_rfl)) (by rw [if_pos rfl]; exact (h4 43 (by kernel_rfl))) (hK _ _ rfl (Below.refl _ _))
    | 45, _ =>
      exact st_move rfl rfl (wanted_none rfl) (h4 44 (by kernel_rfl)) (hK _ _ rfl (Below.refl _ _))
    | 46, _ =>
      exact st_move rfl rfl (wanted_some (s := 439) rfl rfl (h4 45 (by kernel_rfl))) D46 (hK _ _ rfl (Below.refl _ _))
    | 47, _ =>
      exact st_pick rfl rfl (wanted_none rfl) (h4 45 (by kernel_rfl)) (by rw [if_pos rfl]; exact (h4 46 (by kernel_rfl))) (hK _ _ rfl (Below.refl _ _))
    | 48, _ =>
      exact st_move rfl rfl (wanted_none rfl) (h4 47 (by kernel_rfl)) (hK _ _ rfl (Below.refl _ _))
    | 49, _ =>
      exact st_move rfl rfl (wanted_some (s := 442) rfl rfl (h4 48 (by kernel_rfl))) D32 (hK _ _ rfl (Below.refl _ _))
    | 50, _ =>
      exact st_eqS rfl rfl (wanted_some (s := 442) rfl rfl (h4 48 (by kernel_rfl))) (h4 49 (by kernel_rfl)) (hK _ _ (by rfl) (Below.refl _ _))
    | 51, _ =>
      exact st_pick rfl rfl (wanted_none rfl) (h4 48 (by kernel_rfl)) (by rw [if_pos rfl]; exact (h4 50 (by kernel_rfl))) (hK _ _ rfl (Below.refl _ _))
    | 52, _ =>
      exact st_move rfl rfl (wanted_none rfl) (h4 51 (by kernel_rfl)) (hK _ _ rfl (Below.refl _ _))
    | 53, _ =>
      exact st_move rfl rfl (wanted_some (s := 446) rfl rfl (h4 52 (by kernel_rfl))) D47 (hK _ _ rfl (Below.refl _ _))
    | 54, _ =>
      exact st_pick rfl rfl (wanted_none rfl) (h4 52 (by kernel_rfl)) (by rw [if_pos rfl]; exact (h4 53 (by kernel_rfl))) (hK _ _ rfl (Below.refl _ _))
    | 55, _ =>
      exact st_move rfl rfl (wanted_none rfl) (h4 54 (by kernel_rfl)) (hK _ _ rfl (Below.refl _ _))
    | 56, _ =>
      exact st_move rfl rfl (wanted_some (s := 449) rfl rfl (h4 55 (by kernel_rfl))) D34 (hK _ _ rfl (Below.refl _ _))
    | 57, _ =>
      exact st_eqS rfl rfl (wanted_some (s := 449) rfl rfl (h4 55 (by kernel_rfl))) (h4 56 (by kernel_rfl)) (hK _ _ (by rfl) (Below.refl _ _))
    | 58, _ =>
      exact st_pick rfl rfl (wanted_none rfl) (h4 55 (by kernel_rfl)) (by rw [if_pos rfl]; exact (h4 57 (by kernel_rfl))) (hK _ _ rfl (Below.refl _ _))
    | 59, _ =>
      exact st_move rfl rfl (wanted_none rfl) (h4 58 (by kernel_rfl)) (hK _ _ rfl (Below.refl _ _))
    | 60, _ =>
      exact st_move rfl rfl (wanted_some (s := 453) rfl rfl (h4 59 (by kernel_rfl))) D48 (hK _ _ rfl (Below.refl _ _))
    | 61, _ =>
      exact st_not rfl rfl (wanted_some (s := 453) rfl rfl (h4 59 (by kernel_rfl))) (h4 60 (by kernel_rfl)) (hK _ _ (by rfl) (Below.refl _ _))
    | 62, _ =>
      exact st_pick rfl rfl (wanted_none rfl) (h4 59 (by kernel_rfl)) (by rw [if_pos rfl]; exact (h4 61 (by kernel_rfl))) (hK _ _ rfl (Below.refl _ _))
    | 63, _ =>
      exact st_move rfl rfl (wanted_none rfl) (h4 62 (by kernel_rfl)) (hK _ _ rfl (Below.refl _ _))
    | 64, _ =>
      exact st_move rfl rfl (wanted_some (s := 457) rfl rfl (h4 63 (by kernel_rfl))) D36 (hK _ _ rfl (Below.refl _ _))
    | 65, _ =>
      exact st_eqS rfl rfl (wanted_some (s := 457) rfl rfl (h4 63 (by kernel_rfl))) (h4 64 (by kernel_rfl)) (hK _ _ (by rfl) (Below.refl _ _))
    | 66, _ =>
      exact st_pick rfl rfl (wanted_none rfl) (h4 63 (by kernel_rfl)) (by rw [if_pos rfl]; exact (h4 65 (by kernel_rfl))) (hK _ _ rfl (Below.refl _ _))
    | 67, _ =>
      exact st_move rfl rfl (wanted_none rfl) (h4 66 (by kernel_rfl)) (hK _ _ rfl (Below.refl _ _))
    | 68, _ =>
      exact st_move rfl rfl (wanted_some (s := 461) rfl rfl (h4 67 (by kernel_rfl))) D49 (hK _ _ rfl (Below.refl _ _))
    | 69, _ =>
      exact st_val rfl (wanted_some (s := 461) rfl rfl (h4 67 (by kernel_rfl))) (run_lenS _ rfl (h4 68 (by kernel_rfl))) (hK _ _ rfl (Below.refl _ _))
    | 70, _ =>
      exact st_eqS rfl rfl (wanted_some (s := 461) rfl rfl (h4 67 (by kernel_rfl))) (h4 69 (by kernel_rfl)) (hK _ _ (by rfl) (Below.refl _ _))
    | 71, _ =>
      exact st_pick rfl rfl (wanted_none rfl) (h4 67 (by kernel_rfl)) (by rw [if_pos rfl]; exact (h4 70 (by kernel_rfl))) (hK _ _ rfl (Below.refl _ _))
    | 72, _ =>
      exact st_move rfl rfl (wanted_none rfl) (h4 71 (by kernel_rfl)) (hK _ _ rfl (Below.refl _ _))
    | 73, _ =>
      exact st_move rfl rfl (wanted_some (s := 466) rfl rfl (h4 72 (by kernel_rfl))) D51 (hK _ _ rfl (Below.refl _ _))
    | 74, _ =>
      exact st_eqS rfl rfl (wanted_some (s := 466) rfl rfl (h4 72 (by kernel_rfl))) (h4 73 (by kernel_rfl)) (hK _ _ (by rfl) (Below.refl _ _))
    | 75, _ =>
      exact st_pick rfl rfl (wanted_none rfl) (h4 72 (by kernel_rfl)) (by rw [if_pos rfl]; exact (h4 74 (by kernel_rfl))) (hK _ _ rfl (Below.refl _ _))
    | 76, _ =>
      exact st_move rfl rfl (wanted_none rfl) (h4 75 (by kernel_rfl)) (hK _ _ rfl (Below.refl _ _))
    | 77, _ =>
      exact st_val rfl (wanted_some (s := 470) rfl rfl (h4 76 (by kernel_rfl))) (run_lSpanK _ rfl D50 (Kr50.out.bel h5)) (hK _ _ rfl (Below.refl _ _))
    | 78, _ =>
      refine st_call rfl rfl (wanted_some (s := 470) rfl rfl (h4 76 (by kernel_rfl))) (vs := #[.int .i64 0]) (by simp [Act.eval]) (run_enter Tryd.func39 (by kernel_rfl) (by kernel_rfl) _) ?_
      refine (Just_any _ _).mono ?_
      rintro e w1 ⟨rfl, y, rfl⟩
      exact ⟨_, rfl, hK _ _ rfl (below_ext _ _)⟩
    | 79, _ =>
      exact st_val rfl (wanted_some (s := 470) rfl rfl (h4 76 (by kernel_rfl))) (run_spanEq _ rfl (h4 77 (by kernel_rfl)) (h4 78 (by kernel_rfl))) (hK _ _ rfl (Below.refl _ _))
    | 80, _ =>
      exact st_pick rfl rfl (wanted_none rfl) (h4 76 (by kernel_rfl)) (by rw [if_pos rfl]; exact (h4 79 (by kernel_rfl))) (hK _ _ rfl (Below.refl _ _))
    | 81, _ =>
      exact st_move rfl rfl (wanted_none rfl) (h4 80 (by kernel_rfl)) (hK _ _ rfl (Below.refl _ _))
    | 82, _ =>
      exact st_pick rfl rfl (wanted_none rfl) (h4 81 (by kernel_rfl)) (by rw [if_pos rfl]; exact rfl) (hK _ _ rfl (Below.refl _ _))
    | 83, _ =>
      exact st_move rfl rfl (wanted_none rfl) (h4 82 (by kernel_rfl)) (hK _ _ rfl (Below.refl _ _))
    | 84, _ =>
      refine st_call rfl rfl (wanted_some (s := 477) rfl rfl (h4 83 (by kernel_rfl))) (vs := #[]) (by simp) (run_enter Tryd.func24 (by kernel_rfl) (by kernel_rfl) _) ?_
      refine (sounded_any _ (HNL.out.below h5)).mono ?_
      rintro e w1 ⟨rfl, y, rfl⟩
      exact ⟨_, rfl, hK _ _ rfl (below_ext _ _)⟩
    | 85, _ =>
      exact st_pick rfl rfl (wanted_none rfl) (h4 83 (by kernel_rfl)) (by rw [if_pos rfl]; exact (h4 84 (by kernel_rfl))) (hK _ _ rfl (Below.refl _ _))
    | k + 86, hk => omega
  · intro a W h1 h2 h3 h4 h5
    have R0 : a.tmps.getD 479 undef = .bool true := h4 85 (by decide)
    have HWL := Lib.hid (HW20.out.trans (h5.mono HW20.out.size))
    clear h3 h4 h5
    obtain ⟨f2, rfl⟩ := frame480 a h1 h2
    have e479 : f2 479 = .bool true := R0
    rw [e479]
    clear R0 e479 h1 h2
    change wpList _ _ _ (_ :: []) _ _
    go_wp2_with fail
    go_ret
    exact ⟨rfl, ext_of HWL.out⟩
end Go.Proofs.YtjjfpbjdcmkkhaaDoor

