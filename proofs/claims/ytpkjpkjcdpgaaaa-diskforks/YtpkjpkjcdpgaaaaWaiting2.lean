/- disk.Disk.Waiting: the sectors that wait, and of each how many writes. -/
import Derived.Test.YtpkjpkjcdpgaaaaWaiting
import Derived.Deep.Onto
namespace Go.Proofs.Ytpkjpkjcdpgaaaa
open Go.RowKit Go.Maps
/-- Of each sector that waits how many of its writes do. -/
def waitCounts (waits : Int → List ByteArray) (N : Nat) : List Int := (waitKeys waits N).map (fun k => ((waits k).length : Int))
theorem infoInt : (Try.prog.info? 3).map (fun i => (i.zero, i.size, i.bytes)) = some (some (.int .i64 0), 1, 8) := by kernel_rfl
theorem length_waitKeys (waits : Int → List ByteArray) (N : Nat) : (waitKeys waits N).length ≤ N := by
  unfold waitKeys; exact Nat.le_trans (List.length_filter_le _ _) (by simp)
theorem counts_step (ks : List Int) (f : Int → Int) (k : Nat) (hk : k < ks.length) : ((ks.map f).take k).map encZ ++ [.int .i64 (f ks[k])] = ((ks.map f).take (k + 1)).map encZ := by
  have hk' : k < (ks.map f).length := by simpa using hk
  rw [List.take_succ_eq_append_getElem hk']
  simp
set_option maxRecDepth 100000 in
set_option maxHeartbeats 1000000 in
theorem waiting_disk_rd (d : DL) (S : DiskS) (w : World) (h : DiskRd w d S) (hB : S.ops.length ≤ opsMax) :
    Calls Try.prog 19 #[.pointer (some ⟨d.p, 0, none⟩)] w fun e w' => ∃ v1 v2, e = .returned (.tuple #[v1, v2]) ∧
      w'.ownsRow w.heap.size 3 1 v1 (waitKeys S.waits S.safe.length).length ((waitKeys S.waits S.safe.length).map encZ) ∧
      w'.ownsRow w.heap.size 3 1 v2 (waitKeys S.waits S.safe.length).length ((waitCounts S.waits S.safe.length).map encZ) ∧ Below w.heap.size w w' := by
  have HW := hid (waiting_any d.p d.L S.safe S.waits S.ops.length w (by rw [cell_of_block h.heap]; rfl) h.plates hB)
  have H := hid h
  have HM := hid h.plates.most
  obtain ⟨i0, hi, hz0, hz1, hz2⟩ := info_parts infoInt
  have HI := hid hi
  have HLk := hid (length_waitKeys S.waits S.safe.length)
  have HMem := hid (fun k => @mem_waitKeys S.waits S.safe.length k)
  clear h hi
  unfold waitCounts
  generalize hks : waitKeys S.waits S.safe.length = ks at *
  clear hks
  go_enter Try.func19, Try.ntmps19
  go_wp2_with fail
  refine HW.out.mono ?_
  clear HW
  rintro e w1 ⟨v, rfl, hrow, hnil, hb⟩
  have HR := hid hrow
  have HB1 := hid hb
  by_cases hk0 : ks = []
  · obtain rfl := hnil.2 hk0
    subst hk0
    clear hrow hnil hb
    go_wp2
    go_loopw [3, 14] (fun v i wr => v = .slice none 0 0 ∧ i = .int .i64 0 ∧ wr = w1) (fun _ _ _ => 0)
    case atStart => exact ⟨rfl, rfl, rfl⟩
    case round =>
      obtain ⟨rfl, rfl, rfl⟩ := hrel
      go_wp2
      go_returns
      exact ⟨.slice none 0 0, .slice none 0 0, rfl, HR.out, World.ownsRow_nil _ _ _ _, HB1.out⟩
  · have hpos : 0 < ks.length := List.length_pos_iff.2 hk0
    obtain ⟨g, cap, rfl, hg1, hg2⟩ := hrow.form hpos
    clear hrow hnil hb hk0
    have hkl : ks.length ≤ 4096 := Nat.le_trans HLk.out HM.out
    go_wp2
    go_loopw [3, 14] (fun v i wr => ∃ k : Nat, k ≤ ks.length ∧ i = .int .i64 k ∧ Hid (wr.ownsRow w1.heap.size 3 1 v k (((ks.map (fun x => ((S.waits x).length : Int))).take k).map encZ)) ∧ Hid (Below w1.heap.size w1 wr)) (fun _ i _ => ks.length - (intOf i).toNat)
    case atStart => exact ⟨0, by omega, rfl, World.ownsRow_nil _ _ _ _, Below.refl _ _⟩
    case round =>
      obtain ⟨k, hk, rfl, hF, hBr⟩ := hrel
      by_cases hlt : k < ks.length
      · have hkm := HMem.out ks[k] |>.1 (List.getElem_mem hlt)
        obtain ⟨m0, m1, m2⟩ := hkm
        have hkeep := H.out.plates.keep (Keeps.of_below HB1.out |>.andBelow hBr.out) (fun _ _ e => e)
        have hlook : (Instr.lookup 66 (.map (some d.L.m)) (.int .i64 ks[k]) false).run Try.prog wr = .ok (.slice (some ⟨d.L.row ks[k], 0, none⟩) (S.waits ks[k]).length (d.L.rcap ks[k])) wr := by
          have := hkeep.look ks[k] m0 m1 wr rfl
          rwa [PL.rowV, if_neg m2] at this
        have hlen := H.out.plates.len ks[k]
        have cp : wr.cell? ⟨d.p, 3, none⟩ = some (.map (some d.L.m)) := by rw [cell_of_block (below_block hBr.out (below_block HB1.out H.out.heap (lt_of_heap H.out.heap)) (Nat.lt_of_lt_of_le (lt_of_heap H.out.heap) HB1.out.size))]; rfl
        have ck : wr.cell? ⟨g, k, none⟩ = some (.int .i64 ks[k]) := by
          rw [hBr.out.cell (p := ⟨g, k, none⟩) hg2, HR.out.cellAt k (by simpa using hlt)]
          simp [List.getElem?_eq_getElem hlt]
        have hk0 : (0 : Int) ≤ (k : Int) := by omega
        have hk2 : (k : Int) < (ks.length : Int) := by omega
        have HS := hid (counts_step ks (fun x => ((S.waits x).length : Int)) k hlt)
        generalize hx : ks[k] = x at *
        clear hx hkeep m0 m1 m2
        go_wp2_with (refine wpList_append_lies _ rfl (.tmp 18) (.tmp 27) 35 rfl w1.heap.size 3 i0 (.int .i64 0) 1 8 Try.underlying35 HI.out hz0 hz1 hz2 rfl (by omega) u3 k _ rfl (hF.out.alloc _) ⟨wr.heap.size, 0, none⟩ 1 1 [.int .i64 (S.waits x).length] rfl rfl (World.news_of_block (cs := #[.int .i64 (S.waits x).length]) (block_new wr _)) (by intro u hu; rw [List.mem_singleton.1 hu]; rfl) (by omega) (by unfold maxLen; omega) (by omega) (by have := hBr.out.size; simp; omega) (wr.heap.size + 1) (by simp) ?_; intro g2 cap2 w2 hown hgr hat hlt2; have HO := hid hown; have HG := hid hgr; have HA := hid hat; clear hown hgr hat hlt2)
        have hba := hBr.out.alloc hBr.out.size (.cells #[.int .i64 (S.waits x).length] 3)
        refine ⟨⟨k + 1, by omega, by go_num, ?_, hba.trans (below_of_row HG.out hba.size (fun i e => (hF.out.lt i e).1))⟩, by simp [intOf]; omega⟩
        have := HO.out
        rwa [HS.out] at this
      · obtain rfl : k = ks.length := by omega
        have hge : ¬ ((ks.length : Int) < (ks.length : Int)) := by omega
        go_wp2
        go_returns
        refine ⟨.slice (some ⟨g, 0, none⟩) ks.length cap, u3, rfl, (Keeps.of_below hBr.out).row HR.out (fun _ _ (e : False) => e), ?_, HB1.out.trans (hBr.out.mono HB1.out.size)⟩
        have := hF.out.mono HB1.out.size
        rw [List.take_of_length_le (by simp), List.map_map] at this
        exact this
theorem waiting_disk (d : DL) (S : DiskS) (w : World) (h : DiskIn w d S) (hB : S.ops.length ≤ opsMax) :
    Calls Try.prog 19 #[.pointer (some ⟨d.p, 0, none⟩)] w fun e w' => ∃ v1 v2, e = .returned (.tuple #[v1, v2]) ∧
      w'.ownsRow w.heap.size 3 1 v1 (waitKeys S.waits S.safe.length).length ((waitKeys S.waits S.safe.length).map encZ) ∧
      w'.ownsRow w.heap.size 3 1 v2 (waitKeys S.waits S.safe.length).length ((waitCounts S.waits S.safe.length).map encZ) ∧ Below w.heap.size w w' :=
  waiting_disk_rd d S w h.rd hB
end Go.Proofs.Ytpkjpkjcdpgaaaa
