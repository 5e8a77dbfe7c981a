/-
  What a handle stands at: Peek, target, fits, May.
-/
import Derived.Test.YtmkfjdfpcjkmnaaVb
import Derived.Test.YtmkfjdfpcjkmnaaTk
import Derived.Deep.DeepCutAuto
namespace Go.Proofs.Ytmkfjdfpcjkmnaa
open Go.RowKit
set_option linter.unusedVariables false
set_option linter.unusedSimpArgs false
set_option maxRecDepth 100000

theorem field99 (W : World) (a b : ByteArray) (d : Bool) (ao : Option Addr) (n c : Nat) : (Instr.field 99 (.agg #[.string a, .string b, .bool d, .slice ao n c]) 1).run Try.prog W = .ok (.slice ao n c) W := rfl
/-- A file's bytes' row, as a value. -/
theorem Fs.data {w : World} {s : Nat} {σ : FSt} (H : Fs w s σ) {p : By} {f : Fi} (hf : look σ.fs p = some f) : ∃ ao c, f.dv = .slice ao f.xs.length c ∧ w.ownsRow 0 5 1 f.dv f.xs.length (f.xs.map (Value.int .u8)) ∧ f.xs.length ≤ 1048576 := by
  obtain ⟨e, he, _, rfl⟩ := look_there hf
  obtain ⟨ao, c, hv⟩ := row_slice (H.rf e he).1
  exact ⟨ao, c, hv, H.rf e he⟩
theorem Fs.getF {w : World} {s : Nat} {σ : FSt} (H : Fs w s σ) {p : By} {f : Fi} (hf : look σ.fs p = some f) {ao : Option Addr} {c : Nat} (hv : f.dv = .slice ao f.xs.length c) : (Instr.lookup 72 (.map (some σ.fm)) (.string ⟨p.toArray⟩) false).run Try.prog w = .ok (.agg #[.string ⟨f.p.toArray⟩, .string ⟨f.nm.toArray⟩, .bool false, .slice ao f.xs.length c]) w := by
  rw [H.lookF p false, if_neg (by simp), lookV, hf]
  show Result.ok (Value.agg #[_, _, _, f.dv]) w = _
  rw [hv]
  rfl
theorem Fs.getH {w : World} {s : Nat} {σ : FSt} (H : Fs w s σ) {h : Int} {x : Ha} (hx : look σ.hs h = some x) : (Instr.lookup 74 (.map (some σ.hm)) (.int .i64 h) false).run Try.prog w = .ok (.agg #[.string ⟨x.p.toArray⟩, .int .i64 x.pl, .int .i64 x.md]) w := by
  rw [H.lookH h false, if_neg (by simp), lookV, hx]
  rfl
set_option maxHeartbeats 2000000 in
theorem peek_ok {w : World} {s : Nat} {σ : FSt} (H : Fs w s σ) (h n : Int) (x : Ha) (hx : look σ.hs h = some x) (hm : x.md = 0) (hn : 0 ≤ n) (f : Fi) (hf : look σ.fs x.p = some f) (hp0 : 0 ≤ x.pl) (hp1 : x.pl ≤ 2097152) :
    Calls Try.prog 29 #[.pointer (some ⟨s, 0, none⟩), .int .i64 h, .int .i64 n] w fun e w' => e = .returned (.tuple #[.int .i64 (min n (max ((f.xs.length : Int) - x.pl) 0)), .int .i64 0]) ∧ Kept (fun _ => False) w w' := by
  have HC := hid_of (isopen_any H h)
  rw [hx, Option.isSome_some] at HC
  have HF := hid_of H
  obtain ⟨ao, c, hv, _, hl⟩ := H.data hf
  have HG := hid_of (fun (W : World) (hW : Kept (fun _ => False) w W) => (H.same hW).getH hx)
  have HD := hid_of (fun (W : World) (hW : Kept (fun _ => False) w W) => (H.same hW).getF hf hv)
  rw [hm] at HG
  obtain ⟨xp, hxp⟩ : ∃ q : ByteArray, q = ⟨x.p.toArray⟩ := ⟨_, rfl⟩
  rw [← hxp] at HG HD
  obtain ⟨a1, ha1⟩ : ∃ q : ByteArray, q = ⟨f.p.toArray⟩ := ⟨_, rfl⟩
  obtain ⟨a2, ha2⟩ : ∃ q : ByteArray, q = ⟨f.nm.toArray⟩ := ⟨_, rfl⟩
  rw [← ha1, ← ha2] at HD
  generalize x.pl = pl at *
  generalize f.xs.length = ln at *
  have hfld := fun W => field99 W a1 a2 false ao ln c
  clear H hx hm hf hv hxp ha1 ha2
  go_enter Try.func29, Try.ntmps29
  go_wp2_with fail
  refine HC.out.mono ?_
  rintro e w1 ⟨rfl, hk1⟩
  have hc8 := (HF.out.same hk1).cell 8 (v := .map (some σ.hm)) rfl
  have hg := HG.out w1 hk1
  have HK1 := hid_of hk1
  clear HC hk1
  go_upto_region 8 with fail
  have hK2 : Kept (fun _ => False) w (w1.alloc (.cells #[.string xp, .int .i64 pl, .int .i64 0] 82)) := HK1.out.trans ((Kept.refl _ w1).alloc _)
  have hb2 : (w1.alloc (.cells #[.string xp, .int .i64 pl, .int .i64 0] 82)).heap[w1.heap.size]? = some (.cells #[.string xp, .int .i64 pl, .int .i64 0] 82 (0, 0)) := alloc_new _ _ rfl
  generalize w1.alloc (.cells #[.string xp, .int .i64 pl, .int .i64 0] 82) = w2 at *
  have HS8 : Hid (∀ w', Kept (fun _ => False) w2 w' → w'.cell? ⟨s, 6, none⟩ = some (.map (some σ.fm)) ∧ w'.cell? ⟨w1.heap.size, 0, none⟩ = some (.string xp) ∧ w'.cell? ⟨w1.heap.size, 1, none⟩ = some (.int .i64 pl) ∧ _) := fun w' hw =>
    ⟨(HF.out.same (hK2.trans hw)).cell 6 rfl, hw.cell ((cell_block _ _ 0 _ _ _ hb2).trans rfl) (fun f => f), hw.cell ((cell_block _ _ 1 _ _ _ hb2).trans rfl) (fun f => f), HD.out w' (hK2.trans hw)⟩
  have HK2 := hid_of hK2
  have wr1 : IntKind.i64.wrap ((ln : Int) - pl) = (ln : Int) - pl := by rw [IntKind.wrap_i64]; omega
  clear hK2 hb2 hc8 hg HD HG
  refine wp_region_held_drew (S := fun w' => Kept (fun _ => False) w2 w') (by kernel_rfl) ((Kept.refl _ _).drew) (fun hHeld => ?_)
  iterate 13
    refine tkn (v := ?_) 0 rfl ?_ ?_; rotate_left 1
    · intro w hSw; obtain ⟨s1, s2, s3, s4⟩ := HS8.out w hSw; go_simp; try with_reducible rfl
    try simp only [Act.put, tdy]
  refine wpAnyH_done (by kernel_rfl) ?_ _
  have HK3 : Hid (Kept (fun _ => False) w w2.drew) := HK2.out.drew
  clear hHeld
  go_wp2
  all_goals exact bodyPost_ret (v := .tuple #[.int .i64 (min n (max ((ln : Int) - pl) 0)), .int .i64 0]) (by simp [results, Try.results29, go_sem]; omega) rfl ⟨rfl, HK3.out⟩
end Go.Proofs.Ytmkfjdfpcjkmnaa
