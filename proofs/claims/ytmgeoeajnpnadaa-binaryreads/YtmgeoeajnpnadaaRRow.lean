/- A row of numbers read, by the document. -/
import Derived.Test.YtmgeoeajnpnadaaRGet
import Derived.Test.YtmgeoeajnpnadaaRdB
namespace Bin
def any : Int → Bool := fun _ => true
end Bin
namespace Go.Proofs.Ytmgeoeajnpnadaa
open Go.RowKit
set_option linter.unusedVariables false
set_option linter.unusedSimpArgs false

/-- A number more. -/
theorem push2 {W : World} {base n : Nat} {v : Value} {xs : List Value} (h : W.ownsRow base 2 1 v n xs) (hb : base ≤ W.heap.size) (hl : n ≤ 16777216) (x : Int) :
    ∃ o c B, (Builtin.append_ #[39, 39] 39 #[v, .slice (some ⟨W.heap.size, 0, none⟩) 1 1]).run Try.prog (W.alloc (.cells #[.int .i64 x] 2)) = .ok (.slice o (n + 1) c) B ∧ B.ownsRow base 2 1 (.slice o (n + 1) c) (n + 1) (xs ++ [.int .i64 x]) ∧ Below base W B ∧ (∀ k, k < W.heap.size → v.ownBlock ≠ some k → B.heap[k]? = W.heap[k]?) := by
  obtain ⟨i0, hi, hz⟩ := Option.map_eq_some_iff.1 info2
  simp only [Prod.mk.injEq] at hz
  obtain ⟨hz0, hz1, hz2⟩ := hz
  obtain ⟨W1, hW1⟩ : ∃ W1, W.alloc (.cells #[.int .i64 x] 2) = W1 := ⟨_, rfl⟩
  have hM : W1.heap[W.heap.size]? = some (.cells #[.int .i64 x] 2 (0, 0)) := by rw [← hW1]; exact heap_alloc_new _ _
  have h01 : Below W.heap.size W W1 := by rw [← hW1]; exact below_box _ _
  have hs1 : W1.heap.size = W.heap.size + 1 := by rw [← hW1]; simp
  have hop := own_below h h01
  rw [hW1]
  obtain ⟨v2, B, hr, ho2, hg, _, hat⟩ := run_append_own_at (P := Try.prog) W1 base 39 39 2 i0 _ 1 8 Try.underlying39 hi hz0 hz1 hz2 rfl (by decide) v n _ hop ⟨W.heap.size, 0, none⟩ 1 1 [.int .i64 x] rfl (fun j u hu => by
    match j, hu with
    | 0, hu => simp at hu; subst hu; rw [show (⟨W.heap.size, 0, none⟩ : Addr).add 0 = ⟨W.heap.size, 0, none⟩ from rfl, row_cell hM 0]; rfl
    | j + 1, hu => simp at hu) (by simp [Value.oneCell']) (by simp [maxLen]; omega) (by omega) (by omega)
  obtain ⟨o', cp', rfl⟩ := own_slc ho2
  have keep : ∀ k, k < W.heap.size → v.ownBlock ≠ some k → B.heap[k]? = W.heap[k]? := fun k hk hne =>
    (hg.block _ (by omega) (fun e => hne e.symm)).trans (h01.block _ hk)
  refine ⟨o', cp', B, hr, ho2, ⟨hg.os.trans h01.os, hg.tape.trans h01.tape, hg.output.trans h01.output, by have := hg.size; omega, fun k hk => keep k (by omega) (fun e => ?_)⟩, keep⟩
  have := (h.lt k e).1
  omega
/-- A literal more. -/
theorem push44 {W : World} {base n : Nat} {v : Value} {xs : List Value} (h : W.ownsRow base 44 1 v n xs) (hb : base ≤ W.heap.size) (hl : n ≤ 16777216) (x : Int) :
    ∃ o c B, (Builtin.append_ #[41, 41] 41 #[v, .slice (some ⟨W.heap.size, 0, none⟩) 1 1]).run Try.prog (W.alloc (.cells #[.int .i32 x] 44)) = .ok (.slice o (n + 1) c) B ∧ B.ownsRow base 44 1 (.slice o (n + 1) c) (n + 1) (xs ++ [.int .i32 x]) ∧ Below base W B ∧ (∀ k, k < W.heap.size → v.ownBlock ≠ some k → B.heap[k]? = W.heap[k]?) := by
  obtain ⟨i0, hi, hz⟩ := Option.map_eq_some_iff.1 info44
  simp only [Prod.mk.injEq] at hz
  obtain ⟨hz0, hz1, hz2⟩ := hz
  obtain ⟨W1, hW1⟩ : ∃ W1, W.alloc (.cells #[.int .i32 x] 44) = W1 := ⟨_, rfl⟩
  have hM : W1.heap[W.heap.size]? = some (.cells #[.int .i32 x] 44 (0, 0)) := by rw [← hW1]; exact heap_alloc_new _ _
  have h01 : Below W.heap.size W W1 := by rw [← hW1]; exact below_box _ _
  have hs1 : W1.heap.size = W.heap.size + 1 := by rw [← hW1]; simp
  have hop := own_below h h01
  rw [hW1]
  obtain ⟨v2, B, hr, ho2, hg, _, hat⟩ := run_append_own_at (P := Try.prog) W1 base 41 41 44 i0 _ 1 4 Try.underlying41 hi hz0 hz1 hz2 rfl (by decide) v n _ hop ⟨W.heap.size, 0, none⟩ 1 1 [.int .i32 x] rfl (fun j u hu => by
    match j, hu with
    | 0, hu => simp at hu; subst hu; rw [show (⟨W.heap.size, 0, none⟩ : Addr).add 0 = ⟨W.heap.size, 0, none⟩ from rfl, row_cell hM 0]; rfl
    | j + 1, hu => simp at hu) (by simp [Value.oneCell']) (by simp [maxLen]; omega) (by omega) (by omega)
  obtain ⟨o', cp', rfl⟩ := own_slc ho2
  have keep : ∀ k, k < W.heap.size → v.ownBlock ≠ some k → B.heap[k]? = W.heap[k]? := fun k hk hne =>
    (hg.block _ (by omega) (fun e => hne e.symm)).trans (h01.block _ hk)
  refine ⟨o', cp', B, hr, ho2, ⟨hg.os.trans h01.os, hg.tape.trans h01.tape, hg.output.trans h01.output, by have := hg.size; omega, fun k hk => keep k (by omega) (fun e => ?_)⟩, keep⟩
  have := (h.lt k e).1
  omega
/-- What reading a row tells, by the document. -/
def RRowOut (w : World) (bs : List Int) (pos : Nat) (e : Ending) (w' : World) : Prop :=
  (Bin.rowF Bin.any (bs.drop pos) = none ∧ e = .returned (.tuple #[.slice none 0 0, .int .i64 0, .bool false]) ∧ Below w.heap.size w w') ∨
  (∃ (l : List Int) (p2 : Nat) (o : Option Addr) (c : Nat), Bin.rowF Bin.any (bs.drop pos) = some (l, bs.drop p2) ∧ pos < p2 ∧ p2 ≤ bs.length ∧ e = .returned (.tuple #[.slice o l.length c, .int .i64 (p2 : Int), .bool true]) ∧ w'.ownsRow w.heap.size 2 1 (.slice o l.length c) l.length (l.map (Value.int .i64)) ∧ Below w.heap.size w w')

set_option maxRecDepth 100000 in
set_option maxHeartbeats 8000000 in
theorem row50 (a : Option Addr) (rn rc : Nat) (bs : List Int) (pos : Nat) (w : World) (hn : bs.length = rn) (hz : rn ≤ 1000000) (hR : Bts w a bs) (hp : pos ≤ rn) :
    Calls Try.prog 50 #[.slice a rn rc, .int .i64 (pos : Int)] w fun e w' => RRowOut w bs pos e w' := by
  have HR := hid hR
  have HN := hid hn
  have HBY := hid hR.byt
  have HPOS := hid hp
  have C49 := hid (fun (W : World) (hW : Below w.heap.size w W) (p : Nat) (hp : p ≤ rn) => get49 a rn rc bs p W hn hz (hR.below hW) hp)
  clear hR hn hp
  go_enter Try.func50, Try.ntmps50
  go_wp2
  go_loopw [1, 7] (fun av lv wr => ∃ (p : Nat) (acc : List Int) (o : Option Addr) (k c : Nat), av = .int .i64 p ∧ lv = .slice o k c ∧ Hid (acc.length = k) ∧ Hid (pos ≤ p ∧ p ≤ rn ∧ k ≤ p ∧ (0 < k → pos < p)) ∧ Hid (Bin.rowF Bin.any (bs.drop pos) = restOf Bin.any acc (bs.drop p)) ∧ Hid (wr.ownsRow w.heap.size 2 1 (.slice o k c) k (acc.map (Value.int .i64))) ∧ Hid (Below w.heap.size w wr)) (fun av _ _ => rn - (intOf av).toNat)
  case atStart => exact ⟨pos, [], none, 0, 0, rfl, rfl, hid rfl, hid ⟨Nat.le_refl _, HPOS.out, Nat.zero_le _, by omega⟩, hid (restOf_nil _ _).symm, hid (World.ownsRow_nil _ _ _ _), hid (Below.refl _ _)⟩
  case round =>
    obtain ⟨p, acc, o, k, c, rfl, rfl, HK, HP, HE, HO, HB⟩ := hrel
    have K := C49.out wr HB.out p HP.out.2.1
    have hbd := HBY.out.drop p
    cases hnum : Bin.numR (bs.drop p) with
    | none =>
      have K49 := hid (K.mono (R' := fun e w' => e = .returned (.tuple #[.int .i64 0, .int .i64 0, .bool false]) ∧ w' = wr) (by
        rintro e w' ⟨⟨_, he⟩ | ⟨n, p2, h9, _⟩, hw⟩
        · exact ⟨he, hw⟩
        · rw [hnum] at h9; cases h9))
      have HX := hid (show Bin.rowF Bin.any (bs.drop pos) = none by rw [HE.out, restOf_none hbd hnum])
      clear K hnum hbd
      go_wp2_with (go_at_call 49; refine K49.out.mono ?_; clear K49; rintro e W1 ⟨rfl, rfl⟩)
      refine bodyPost_ret (results_tmp3 rfl _ _ _) rfl ?_
      exact .inl ⟨HX.out, rfl, HB.out⟩
    | some q =>
      obtain ⟨n, r⟩ := q
      have K49 := (K.mono (R' := fun e w' => ∃ p2, r = bs.drop p2 ∧ p < p2 ∧ p2 ≤ rn ∧ e = .returned (.tuple #[.int .i64 n, .int .i64 (p2 : Int), .bool true]) ∧ w' = wr) (by
        rintro e w' ⟨⟨h9, _⟩ | ⟨n', p2, h9, h1, h2, he⟩, hw⟩
        · rw [hnum] at h9; cases h9
        · rw [hnum] at h9; cases h9; exact ⟨p2, rfl, h1, by rw [← HN.out]; exact h2, he, hw⟩))
      have KK := hid K49
      clear K
      by_cases h0 : n = 0
      · subst h0
        have HX := hid (show Bin.rowF Bin.any (bs.drop pos) = some (acc, r) by rw [HE.out, restOf_end hbd hnum])
        clear hnum hbd K49
        go_wp2_with (go_at_call 49; refine KK.out.mono ?_; clear KK; rintro e W1 ⟨p2, hr2, hp2, hp3, rfl, rfl⟩; have HR2 := hid hr2; clear hr2)
        refine bodyPost_ret (results_tmp3 rfl _ _ _) rfl ?_
        refine .inr ⟨acc, p2, o, c, by rw [HX.out, HR2.out], by have := HP.out; omega, by rw [HN.out]; exact hp3, ?_, ?_, HB.out⟩
        · rw [HK.out]; rfl
        · rw [HK.out]; exact HO.out
      · have h0' : (n == 0) = false := by simpa using h0
        have HX := hid (show Bin.rowF Bin.any (bs.drop pos) = restOf Bin.any (acc ++ [n]) r by rw [HE.out, restOf_more hbd hnum h0 rfl])
        obtain ⟨o3, c3, B, r3, ho3, hb3, _⟩ := push2 HO.out HB.out.size (by have := HP.out; omega) n
        have HAP := hid r3
        have HO3 := hid ho3
        have HB3 := hid (HB.out.trans hb3)
        clear hnum hbd K49 h0 r3 ho3 hb3
        go_wp2_with (first
          | (go_at_call 49; refine KK.out.mono ?_; clear KK; rintro e W1 ⟨p2, hr2, hp2, hp3, rfl, rfl⟩; have HR2 := hid hr2; clear hr2)
          | (at_builtin; refine wpList_append_run rfl (.tmp 25) (.tmp 27) 39 39 rfl rfl rfl HAP.out ?_; clear HAP))
        refine ⟨⟨p2, acc ++ [n], o3, k + 1, c3, rfl, rfl, hid (by simp [HK.out]), hid (by have := HP.out; omega), hid (by rw [HX.out, HR2.out]), hid (by rw [List.map_append]; exact HO3.out), HB3⟩, ?_⟩
        simp [intOf]
        omega
end Go.Proofs.Ytmgeoeajnpnadaa
