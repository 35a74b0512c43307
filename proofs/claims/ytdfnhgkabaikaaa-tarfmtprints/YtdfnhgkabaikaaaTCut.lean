/- cut: a header's fields. Written by mk_tcut.py. -/
import Derived.Test.YtdfnhgkabaikaaaTNum
namespace Go.Proofs.Ytdfnhgkabaikaaa
open Go.RowKit
/-- A field at a place. -/
abbrev sl (b o n : Nat) : Value := .slice (some ⟨b, o, none⟩) n n
/-- A header's fields, as cut tells them. -/
def hdA (b o : Nat) : Array Value := #[sl b (o) 100, sl b (o + 100) 8, sl b (o + 108) 8, sl b (o + 116) 8, sl b (o + 124) 12, sl b (o + 136) 12, sl b (o + 148) 8, sl b (o + 156) 1, sl b (o + 157) 100, sl b (o + 257) 8, sl b (o + 265) 32, sl b (o + 297) 32, sl b (o + 329) 8, sl b (o + 337) 8, sl b (o + 345) 155, sl b (o + 500) 12]
def hdV (b o : Nat) : Value := .agg (hdA b o)
def nils : Array Value := Array.replicate 16 (.slice none 0 0)
structure CutSt (w0 w : World) (v : Value) : Prop where
  box : w.heap[w0.heap.size]? = some (.cells #[v] 23 (0, 0))
  hdr : w.heap[w0.heap.size + 1]? = some (.cells nils 53 (0, 0))
  below : Below w0.heap.size w0 w
theorem CutSt.set {w0 w : World} {v : Value} (h : CutSt w0 w v) (u : Value) : CutSt w0 (w.setCell ⟨w0.heap.size, 0, none⟩ u) u :=
  ⟨by rw [block_setCell h.box]; rfl, (block_setCell_other _ _ (by omega)).trans h.hdr, h.below.setCell (p := ⟨w0.heap.size, 0, none⟩) (Nat.le_refl _) u⟩
set_option maxHeartbeats 1000000 in
theorem cut1_st (w0 w : World) (b o n len cap o2 len2 cap2 : Nat) (h : CutSt w0 w (.slice (some ⟨b, o, none⟩) len cap)) (hn : n < cap) (hl : n ≤ len) (hc : len ≤ cap) (e1 : o + n = o2) (e2 : len - n = len2) (e3 : cap - n = cap2) :
    Calls Try.prog 37 #[.int .i64 n, .pointer (some ⟨w0.heap.size, 0, none⟩)] w fun e w' => e = .returned (sl b o n) ∧ CutSt w0 w' (.slice (some ⟨b, o2, none⟩) len2 cap2) := by
  have c0 : w.cell? ⟨w0.heap.size, 0, none⟩ = some (.slice (some ⟨b, o, none⟩) len cap) := cell_of_block h.box 0
  have f0 := frozen_of_block h.box 0
  have q1 : (0 : Int) ≤ (n : Int) := by omega
  have q2 : (n : Int) ≤ (cap : Int) := by omega
  have q3 : (n : Int) ≤ (len : Int) := by omega
  have q4 : (len : Int) ≤ (cap : Int) := by omega
  have q5 : ¬ (cap = n) := by omega
  have H := hid h
  subst e1 e2 e3
  clear hn hl hc h
  go_enter Try.func37, Try.ntmps37
  go_wp2
  go_ret
  exact ⟨rfl, H.out.set _⟩
set_option maxHeartbeats 1000000 in
theorem cut1_last (w0 w : World) (b o c : Nat) (h : CutSt w0 w (.slice (some ⟨b, o, none⟩) 12 (c + 12))) :
    Calls Try.prog 37 #[.int .i64 12, .pointer (some ⟨w0.heap.size, 0, none⟩)] w fun e w' => e = .returned (sl b o 12) ∧ ∃ v, CutSt w0 w' v := by
  cases c with
  | succ c =>
    refine (cut1_st w0 w b o 12 12 (c + 1 + 12) _ _ _ h (by omega) (by omega) (by omega) rfl rfl rfl).mono ?_
    rintro e w1 ⟨rfl, h1⟩
    exact ⟨rfl, _, h1⟩
  | zero =>
    rw [Nat.zero_add] at h
    have c0 : w.cell? ⟨w0.heap.size, 0, none⟩ = some (.slice (some ⟨b, o, none⟩) 12 12) := cell_of_block h.box 0
    have f0 := frozen_of_block h.box 0
    have H := hid h
    clear h
    go_enter Try.func37, Try.ntmps37
    go_wp2
    go_ret
    exact ⟨rfl, _, H.out.set _⟩
theorem infoHd : (Try.prog.info? 53).map (·.size) = some 16 := by kernel_rfl
theorem hdA_one (b o : Nat) : ((hdA b o).all fun v => v.oneCell') = true := by
  unfold hdA; simp [Value.oneCell']
set_option maxHeartbeats 4000000 in
set_option maxRecDepth 100000 in
theorem cut_any (b o c : Nat) (w : World) : Calls Try.prog 27 #[.slice (some ⟨b, o, none⟩) 512 (c + 512)] w fun e w' => e = .returned (hdV b o) ∧ Below w.heap.size w w' := by
  obtain ⟨n1, n2, n3, n4⟩ := new2 w (.cells #[.slice (some ⟨b, o, none⟩) 512 (c + 512)] 23) (.cells nils 53)
  obtain ⟨w1, hw1⟩ : ∃ w1, w1 = (w.alloc (.cells #[.slice (some ⟨b, o, none⟩) 512 (c + 512)] 23)).alloc (.cells nils 53) := ⟨_, rfl⟩
  rw [← hw1] at n1 n2 n3 n4
  have h0 : CutSt w w1 (.slice (some ⟨b, o, none⟩) 512 (c + 512)) := ⟨n1, n2, n3⟩
  clear n1 n2 n3 n4
  have HW := hid hw1
  clear hw1
  go_enter Try.func27, Try.ntmps27
  go_wp2_with fail
  change Calls Try.prog 37 _ ((w.alloc (.cells #[.slice (some ⟨b, o, none⟩) 512 (c + 512)] 23)).alloc (.cells nils 53)) _
  rw [← HW.out]
  clear HW
  refine (cut1_st w _ b (o) 100 512 (c + 512) (o + 100) 412 (c + 412) h0 (by omega) (by omega) (by omega) (by omega) (by omega) (by omega)).mono ?_
  clear h0
  rintro e W1 ⟨rfl, h1⟩
  go_wp2_with fail
  refine (cut1_st w _ b (o + 100) 8 412 (c + 412) (o + 108) 404 (c + 404) h1 (by omega) (by omega) (by omega) (by omega) (by omega) (by omega)).mono ?_
  clear h1
  rintro e W2 ⟨rfl, h2⟩
  go_wp2_with fail
  refine (cut1_st w _ b (o + 108) 8 404 (c + 404) (o + 116) 396 (c + 396) h2 (by omega) (by omega) (by omega) (by omega) (by omega) (by omega)).mono ?_
  clear h2
  rintro e W3 ⟨rfl, h3⟩
  go_wp2_with fail
  refine (cut1_st w _ b (o + 116) 8 396 (c + 396) (o + 124) 388 (c + 388) h3 (by omega) (by omega) (by omega) (by omega) (by omega) (by omega)).mono ?_
  clear h3
  rintro e W4 ⟨rfl, h4⟩
  go_wp2_with fail
  refine (cut1_st w _ b (o + 124) 12 388 (c + 388) (o + 136) 376 (c + 376) h4 (by omega) (by omega) (by omega) (by omega) (by omega) (by omega)).mono ?_
  clear h4
  rintro e W5 ⟨rfl, h5⟩
  go_wp2_with fail
  refine (cut1_st w _ b (o + 136) 12 376 (c + 376) (o + 148) 364 (c + 364) h5 (by omega) (by omega) (by omega) (by omega) (by omega) (by omega)).mono ?_
  clear h5
  rintro e W6 ⟨rfl, h6⟩
  go_wp2_with fail
  refine (cut1_st w _ b (o + 148) 8 364 (c + 364) (o + 156) 356 (c + 356) h6 (by omega) (by omega) (by omega) (by omega) (by omega) (by omega)).mono ?_
  clear h6
  rintro e W7 ⟨rfl, h7⟩
  go_wp2_with fail
  refine (cut1_st w _ b (o + 156) 1 356 (c + 356) (o + 157) 355 (c + 355) h7 (by omega) (by omega) (by omega) (by omega) (by omega) (by omega)).mono ?_
  clear h7
  rintro e W8 ⟨rfl, h8⟩
  go_wp2_with fail
  refine (cut1_st w _ b (o + 157) 100 355 (c + 355) (o + 257) 255 (c + 255) h8 (by omega) (by omega) (by omega) (by omega) (by omega) (by omega)).mono ?_
  clear h8
  rintro e W9 ⟨rfl, h9⟩
  go_wp2_with fail
  refine (cut1_st w _ b (o + 257) 8 255 (c + 255) (o + 265) 247 (c + 247) h9 (by omega) (by omega) (by omega) (by omega) (by omega) (by omega)).mono ?_
  clear h9
  rintro e W10 ⟨rfl, h10⟩
  go_wp2_with fail
  refine (cut1_st w _ b (o + 265) 32 247 (c + 247) (o + 297) 215 (c + 215) h10 (by omega) (by omega) (by omega) (by omega) (by omega) (by omega)).mono ?_
  clear h10
  rintro e W11 ⟨rfl, h11⟩
  go_wp2_with fail
  refine (cut1_st w _ b (o + 297) 32 215 (c + 215) (o + 329) 183 (c + 183) h11 (by omega) (by omega) (by omega) (by omega) (by omega) (by omega)).mono ?_
  clear h11
  rintro e W12 ⟨rfl, h12⟩
  go_wp2_with fail
  refine (cut1_st w _ b (o + 329) 8 183 (c + 183) (o + 337) 175 (c + 175) h12 (by omega) (by omega) (by omega) (by omega) (by omega) (by omega)).mono ?_
  clear h12
  rintro e W13 ⟨rfl, h13⟩
  go_wp2_with fail
  refine (cut1_st w _ b (o + 337) 8 175 (c + 175) (o + 345) 167 (c + 167) h13 (by omega) (by omega) (by omega) (by omega) (by omega) (by omega)).mono ?_
  clear h13
  rintro e W14 ⟨rfl, h14⟩
  go_wp2_with fail
  refine (cut1_st w _ b (o + 345) 155 167 (c + 167) (o + 500) 12 (c + 12) h14 (by omega) (by omega) (by omega) (by omega) (by omega) (by omega)).mono ?_
  clear h14
  rintro e W15 ⟨rfl, h15⟩
  go_wp2_with fail
  refine (cut1_last w _ b (o + 500) c h15).mono ?_
  clear h15
  rintro e W16 ⟨rfl, v, h16⟩
  have HS := hid h16.hdr
  have HB := hid h16.below
  clear h16
  go_wp2_with (refine wpList_store_block rfl 53 (.tmp 2) (.tmp 37) rfl (w.heap.size + 1) (hdA b o) rfl rfl _ 53 HS.out rfl infoHd (hdA_one b o) ?_; intro w9 hgr hbl hsz; have HG := hid hgr; have HBl := hid hbl; clear hgr hbl hsz)
  go_wp2
  refine bodyPost_ret (results_cell Try.results27 _ _ rfl HBl.out _ Try.underlying53 rfl infoHd) rfl ⟨rfl, ?_⟩
  exact HB.out.grown HG.out (Nat.le_trans (Nat.le_refl _) HB.out.size) (fun k e => by cases e; omega)
end Go.Proofs.Ytdfnhgkabaikaaa
