/- Two caches over disks that are alike: what is told of both. -/
import Derived.Test.YtjgclmlclkfgpaaGreatBSameR
namespace Go.Proofs.YtjgclmlclkfgpaaGreat
open Go.RowKit Go.Maps
theorem keys_same {C D : CS} (h1 : C.N = D.N) (h2 : C.dirty = D.dirty) : C.dirtyKeys = D.dirtyKeys := by unfold CS.dirtyKeys; rw [h1, h2]
theorem com_same {C D : CS} (h1 : C.N = D.N) (h2 : C.dirty = D.dirty) (h3 : C.S = D.S) (h4 : C.size = D.size) : C.com = D.com := by unfold CS.com; rw [keys_same h1 h2, h2, h3, h4]
section
variable {w0 w w' : World} {c d mx my o u : Nat}
theorem SmAt.read (h : SmAt w0 w c d mx my o u) (n : Int) (hn0 : -9223372036854775808 ≤ n) (hn1 : n < 9223372036854775808) (hu : u ≤ 1000) :
    Calls Tryz.prog 25 #[.pointer (some ⟨c, 0, none⟩), .int .i64 n] w fun e w1 => ∃ a l cp er, e = .returned (.tuple #[.slice a (l : Nat) cp, .int .i64 er]) ∧ Below w0.heap.size w0 w1 ∧
      Calls Tryz.prog 25 #[.pointer (some ⟨d, 0, none⟩), .int .i64 n] w1 fun e2 w2 => ∃ a2 cp2, e2 = .returned (.tuple #[.slice a2 l cp2, .int .i64 er]) ∧ SmAt w0 w2 c d mx my o (u + 1) ∧
        Calls Tryz.prog 26 #[.slice a l cp, .slice a2 l cp2] w2 fun e3 w3 => e3 = .returned (.bool true) ∧ Below w2.heap.size w2 w3 := by
  obtain ⟨hb, L, C, M, D, hx, hy, o1, o2, eS, eD⟩ := h
  refine (hx.read n hn0 hn1 hu).mono ?_
  rintro e w1 ⟨res, L1, C1, g, e1, e2⟩
  obtain ⟨hy1, o1', o2'⟩ := g.other hy o1 o2
  have hb1 := g.bel hx hb
  have key : ∀ w2 M1 D1, Went w0 w1 w2 d M D M1 D1 my o (u + 1) → D1.S = D.S → D1.dirty = D.dirty → SmAt w0 w2 c d mx my o (u + 1) := fun w2 M1 D1 gy f1 f2 => by
    obtain ⟨hx2, p1, p2⟩ := gy.other g.side o2' o1'
    exact ⟨gy.bel hy1 hb1, L1, C1, M1, D1, hx2, gy.side, p2, p1, by rw [e1, f1, eS], by rw [e2, f2, eD]⟩
  rcases res with ⟨h1, h2, rfl⟩ | ⟨bs, q, cap, hl, hbs, hin, rfl, hq, hq1, hby⟩
  · refine ⟨none, 0, 0, 2, rfl, hb1, (hy1.read n hn0 hn1 hu).mono ?_⟩
    rintro e w2 ⟨res2, M1, D1, gy, f1, f2⟩
    rcases res2 with ⟨-, -, rfl⟩ | ⟨bs, q, cap, -, -, hin, -⟩
    · refine ⟨none, 0, rfl, key w2 M1 D1 gy f1 f2, ?_⟩
      have := same_bytes [] [] none none 0 0 w2 (fun j hj => by simp at hj) (fun j hj => by simp at hj) (by simp)
      rw [decide_eq_true rfl] at this
      exact this
    · rw [← eD, h2] at hin
      exact absurd hin (fun hh => hh.elim (fun h => by cases h) h1)
  · refine ⟨some ⟨q, 0, none⟩, 512, cap, 0, rfl, hb1, (hy1.read n hn0 hn1 hu).mono ?_⟩
    rintro e w2 ⟨res2, M1, D1, gy, f1, f2⟩
    rcases res2 with ⟨h1, h2, -⟩ | ⟨bs2, q2, cap2, hl2, hbs2, -, rfl, hq2, -, hby2⟩
    · rw [← eD] at h2
      rw [h2] at hin
      exact absurd hin (fun hh => hh.elim (fun h => by cases h) h1)
    · refine ⟨some ⟨q2, 0, none⟩, cap2, rfl, key w2 M1 D1 gy f1 f2, ?_⟩
      rw [← eS, ← eD, ← hbs] at hbs2
      subst hbs2
      have hby' : bytesAt w2 ⟨q, 0, none⟩ bs2 := fun j hj => gy.keeps.cell (hby j hj) (fun hf => by
        rw [add_block] at hf
        have h1 := hy.at_.footLt q hf
        omega)
      have := same_bytes bs2 bs2 (some ⟨q, 0, none⟩) (some ⟨q2, 0, none⟩) cap cap2 w2 (bytesIn_of_at hby') (bytesIn_of_at hby2) (by rw [hl]; omega)
      rw [decide_eq_true rfl, hl] at this
      exact this
theorem SmAt.write (h : SmAt w0 w c d mx my o u) (n : Int) (s : Bool) (l : List UInt8) (ad : Addr) (cp : Nat) (hl : l.length = dlen s) (hb : bytesAt w ad l) :
    Calls Tryz.prog 27 #[.pointer (some ⟨c, 0, none⟩), .int .i64 n, .slice (some ad) (dlen s) cp] w fun e w1 => ∃ er, e = .returned (.int .i64 er) ∧ Below w0.heap.size w0 w1 ∧ ∀ W, Below w1.heap.size w1 W → ∀ ad2 cp2, bytesAt W ad2 l →
      Calls Tryz.prog 27 #[.pointer (some ⟨d, 0, none⟩), .int .i64 n, .slice (some ad2) (dlen s) cp2] W fun e2 w2 => e2 = .returned (.int .i64 er) ∧ SmAt w0 w2 c d mx my o u := by
  obtain ⟨hb0, L, C, M, D, hx, hy, o1, o2, eS, eD⟩ := h
  refine (hx.write n s l ad cp hl hb).mono ?_
  rintro e w1 ⟨rfl, L1, C1, g, e1, e2⟩
  obtain ⟨hy1, o1', o2'⟩ := g.other hy o1 o2
  have hb1 := g.bel hx hb0
  refine ⟨_, rfl, hb1, fun W hW ad2 cp2 hb2 => ?_⟩
  have hk : wrErr C n s = wrErr D n s := by unfold wrErr; rw [keys_same (by rw [hx.N, hy.N]) eD, eD]
  refine ((hy1.below hW).write n s l ad2 cp2 hl hb2).mono ?_
  rintro e w2 ⟨rfl, M1, D1, gy, f1, f2⟩
  obtain ⟨hx2, p1, p2⟩ := gy.other (g.side.below hW) o2' o1'
  refine ⟨by rw [hk], gy.bel (hy1.below hW) (hb1.trans (hW.mono hb1.size)), L1, C1, M1, D1, hx2, gy.side, p2, p1, by rw [e1, f1, eS], ?_⟩
  rw [e2, f2]
  unfold wrD
  rw [hk, eD]
theorem SmAt.commit (h : SmAt w0 w c d mx my o u) (ho : o ≤ 3000) :
    Calls Tryz.prog 29 #[.pointer (some ⟨c, 0, none⟩)] w fun e w1 => e = .returned (.int .i64 0) ∧ Calls Tryz.prog 29 #[.pointer (some ⟨d, 0, none⟩)] w1 fun e2 w2 => e2 = .returned (.int .i64 0) ∧ SmAt w0 w2 c d mx my (o + 18) u := by
  obtain ⟨hb0, L, C, M, D, hx, hy, o1, o2, eS, eD⟩ := h
  refine (hx.commit hb0.size ho).mono ?_
  rintro e w1 ⟨rfl, L1, C1, g, e1, e2⟩
  obtain ⟨hy1, o1', o2'⟩ := g.other hy o1 o2
  have hb1 := g.bel hx hb0
  refine ⟨rfl, (hy1.commit hb1.size ho).mono ?_⟩
  rintro e w2 ⟨rfl, M1, D1, gy, f1, f2⟩
  obtain ⟨hx2, p1, p2⟩ := gy.other g.side o2' o1'
  exact ⟨rfl, gy.bel hy1 hb1, L1, C1, M1, D1, hx2, gy.side, p2, p1, by rw [e1, f1]; exact com_same (by rw [hx.N, hy.N]) eD eS (by rw [hx.size, hy.size]), by rw [e2, f2]⟩
theorem SmAt.abort (h : SmAt w0 w c d mx my o u) :
    Calls Tryz.prog 30 #[.pointer (some ⟨c, 0, none⟩)] w fun e w1 => ∃ v, e = .returned v ∧ Calls Tryz.prog 30 #[.pointer (some ⟨d, 0, none⟩)] w1 fun e2 w2 => ∃ v, e2 = .returned v ∧ SmAt w0 w2 c d mx my o u := by
  obtain ⟨hb0, L, C, M, D, hx, hy, o1, o2, eS, eD⟩ := h
  refine hx.abort.mono ?_
  rintro e w1 ⟨rfl, L1, C1, g, e1, e2⟩
  obtain ⟨hy1, o1', o2'⟩ := g.other hy o1 o2
  have hb1 := g.bel hx hb0
  refine ⟨_, rfl, hy1.abort.mono ?_⟩
  rintro e w2 ⟨rfl, M1, D1, gy, f1, f2⟩
  obtain ⟨hx2, p1, p2⟩ := gy.other g.side o2' o1'
  exact ⟨_, rfl, gy.bel hy1 hb1, L1, C1, M1, D1, hx2, gy.side, p2, p1, by rw [e1, f1, eS], by rw [e2, f2]⟩
theorem SmAt.cached (h : SmAt w0 w c d mx my o u) :
    Calls Tryz.prog 11 #[.pointer (some ⟨c, 0, none⟩)] w fun e w1 => ∃ a k cp, e = .returned (.slice a (k : Nat) cp) ∧ k ≤ mx ∧ SmAt w0 w1 c d mx my o u ∧ Calls Tryz.prog 11 #[.pointer (some ⟨d, 0, none⟩)] w1 fun e2 w2 => ∃ a k cp, e2 = .returned (.slice a (k : Nat) cp) ∧ k ≤ my ∧ SmAt w0 w2 c d mx my o u := by
  have h' := h
  obtain ⟨hb0, L, C, M, D, hx, hy, o1, o2, eS, eD⟩ := h
  refine hx.cached.mono ?_
  rintro e w1 ⟨a, k, cp, rfl, hk, hb⟩
  refine ⟨a, k, cp, rfl, hk, h'.below hb, (hy.below hb).cached.mono ?_⟩
  rintro e w2 ⟨a, k, cp, rfl, hk, hb2⟩
  exact ⟨a, k, cp, rfl, hk, (h'.below hb).below hb2⟩
theorem SmAt.ends (h : SmAt w0 w c d mx my o u) (ho : o ≤ 4096) :
    ∃ p, Calls Tryz.prog 18 #[.pointer (some ⟨c, 0, none⟩)] w (fun e w1 => e = .returned (.pointer (some ⟨p, 0, none⟩)) ∧ w1 = w) ∧ Calls Tryz.prog 19 #[.pointer (some ⟨p, 0, none⟩)] w fun e w1 => ∃ r q, e = .returned (.pointer (some ⟨r, 0, none⟩)) ∧
      Calls Tryz.prog 18 #[.pointer (some ⟨d, 0, none⟩)] w1 (fun e w2 => e = .returned (.pointer (some ⟨q, 0, none⟩)) ∧ w2 = w1) ∧ Calls Tryz.prog 19 #[.pointer (some ⟨q, 0, none⟩)] w1 fun e w2 => ∃ s, e = .returned (.pointer (some ⟨s, 0, none⟩)) ∧
        Calls Tryz.prog 31 #[.pointer (some ⟨r, 0, none⟩), .pointer (some ⟨s, 0, none⟩)] w2 fun e w3 => e = .returned (.bool true) ∧ Below w0.heap.size w0 w3 := by
  obtain ⟨hb0, L, C, M, D, hx, hy, o1, o2, eS, eD⟩ := h
  refine ⟨L.p, blog_any w hx.at_, (log_disk w hx.at_.log (by have := hx.ops; omega)).mono ?_⟩
  rintro e w1 ⟨hb1, d1, rfl, hC1, -⟩
  have hy1 := hy.below hb1
  refine ⟨d1.p, M.p, rfl, blog_any w1 hy1.at_, (log_disk w1 hy1.at_.log (by have := hy.ops; omega)).mono ?_⟩
  rintro e w2 ⟨hb2, d2, rfl, hC2, -⟩
  have hS := same_disks_rd d1 d2 C.S D.S w2 (hC1.rd.below hb2) hC2.rd
  rw [decide_eq_true (by rw [eS])] at hS
  refine ⟨d2.p, rfl, hS.mono ?_⟩
  rintro e w3 ⟨rfl, hb3⟩
  have hB1 := hb0.trans (hb1.mono hb0.size)
  have hB2 := hB1.trans (hb2.mono hB1.size)
  exact ⟨rfl, hB2.trans (hb3.mono hB2.size)⟩
end
end Go.Proofs.YtjgclmlclkfgpaaGreat
